import Derived.Test.YtalaldfgjgpacaaGreatDoorHAT
import Derived.Test.YtalaldfgjgpacaaGreatDoorHAW
import Derived.Deep.RegionHeld3
import Derived.Deep.RegionLaw
import Derived.BigRegion
import Derived.Maps.AppendAt
import Derived.Deep.AppendLies
namespace Go.Proofs.YtalaldfgjgpacaaGreatDoor
set_option linter.unusedVariables false
set_option linter.unusedSimpArgs false
open Go.RowKit
attribute [local go_sem ↓] Go.wp_at_zero Go.wp_at_succ

theorem infoXp : (Tryz.prog.info? 29).map (fun i => (i.zero, i.size, i.bytes)) = some (some (.pointer none), 1, 8) := by kernel_rfl
theorem infoIs : (Tryz.prog.info? 36).map (fun i => (i.zero, i.size, i.bytes)) = some (some (.slice none 0 0), 1, 24) := by kernel_rfl
theorem infoSt : (Tryz.prog.info? 9).map (fun i => (i.zero, i.size, i.bytes)) = some (some (.string ⟨#[]⟩), 1, 16) := by kernel_rfl
theorem mkAckN {n : Nat} (h1 : 1 ≤ n) (h3 : n ≤ 3) (w : World) : (Instr.makeSlice 36 (.int .i64 n) (.int .i64 n)).run Tryz.prog w = .ok (.slice (some ⟨w.heap.size, 0, none⟩) n n) (w.alloc (.cells (intsV (vecL n Vec.zero)) 3)) := by
  have : n = 1 ∨ n = 2 ∨ n = 3 := by omega
  rcases this with rfl | rfl | rfl
  · exact mkAck1 w
  · exact mkAck2 w
  · exact mkAck3 w

theorem Made.start {w : World} {n : Nat} {mode : Int} : Made w (w.alloc (.cells (newRow n mode (.slice none 0 0) (.slice none 0 0) (.slice none 0 0) (.slice none 0 0)) 38)) w.heap.size n mode (.slice none 0 0) (.slice none 0 0) (.slice none 0 0) (.slice none 0 0) 0 0 0 0 (fun _ => 0) (fun _ => 0) :=
  ⟨hp_new w _, ⟨rfl, .inl ⟨rfl, rfl⟩⟩, ⟨rfl, .inl ⟨rfl, rfl⟩⟩, ⟨rfl, .inl ⟨rfl, rfl⟩⟩, ⟨rfl, .inl ⟨rfl, rfl⟩⟩, (fun q h => by cases h), (fun j hj => absurd hj (Nat.not_lt_zero _)), (fun j hj => absurd hj (Nat.not_lt_zero _)), (fun j k hj => absurd hj (Nat.not_lt_zero _)), (fun j hj => absurd hj (Nat.not_lt_zero _)), (fun j hj => absurd hj (Nat.not_lt_zero _)), (fun j k hj => absurd hj (Nat.not_lt_zero _)), (Blw.rfl w).al _, Nat.le_refl _⟩

section
variable {w0 wr w1 w2 : World} {cb n : Nat} {mode : Int} {xv kv T ov : Value} {ix ik io it : Nat} {b g : Nat → Nat}
theorem Made.c (h : Made w0 wr cb n mode xv kv T ov ix ik io it b g) (k : Nat) : wr.cell? ⟨cb, k, none⟩ = (newRow n mode xv kv T ov)[k]? := blk_cell h.row k
theorem Made.f (h : Made w0 wr cb n mode xv kv T ov ix ik io it b g) (k : Nat) : wr.frozen? ⟨cb, k, none⟩ = false := blk_frozen h.row k
/-- The row of a cluster, where one of its slices grew. -/
theorem Made.cg (h : Made w0 wr cb n mode xv kv T ov ix ik io it b g) {v : Value} {t : TypeId} {i : Nat} {xs : List Value} (hv : wr.ownsRow w0.heap.size t 1 v i xs) (ht : t ≠ 38) (hg : wr.grownBy w2 v.ownBlock) : w2.heap[cb]? = some (.cells (newRow n mode xv kv T ov) 38) :=
  (hg.block cb h.lt (fun e => row_ne hv h.row ht e.symm)).trans h.row
end
set_option maxRecDepth 100000 in
set_option maxHeartbeats 8000000 in
theorem start_any (n : Nat) (mode : Int) (w : World) (h1 : 1 ≤ n) (h3 : n ≤ 3) (ht : Tab Tryz.prog w) :
    Calls Tryz.prog 24 #[.int .i64 n, .int .i64 mode] w fun e w' => e = .returned (.tuple #[.pointer (some ⟨w.heap.size, 0, none⟩), .bool true]) ∧ Blw w w' ∧ ∃ m : CM, ClAt w' m (CS.start n mode) ∧ m.cb = w.heap.size ∧ ∀ k, m.own k ↔ w.heap.size ≤ k ∧ k < w'.heap.size := by
  have hn0 : (n : Int) ≤ 3 := by omega
  have HT := hid ht
  have HMK := hid (fun wx => mkAckN h1 h3 wx)
  obtain ⟨F, hF⟩ : ∃ F : World → Prop, F = fun w' => Blw w w' ∧ ∃ m : CM, ClAt w' m (CS.start n mode) ∧ m.cb = w.heap.size ∧ ∀ k, m.own k ↔ w.heap.size ≤ k ∧ k < w'.heap.size := ⟨_, rfl⟩
  rw [show (fun e w' => e = Ending.returned (.tuple #[.pointer (some ⟨w.heap.size, 0, none⟩), .bool true]) ∧ Blw w w' ∧ ∃ m : CM, ClAt w' m (CS.start n mode) ∧ m.cb = w.heap.size ∧ ∀ k, m.own k ↔ w.heap.size ≤ k ∧ k < w'.heap.size) = fun e w' => e = Ending.returned (.tuple #[.pointer (some ⟨w.heap.size, 0, none⟩), .bool true]) ∧ F w' by rw [hF]]
  have HF := hid hF
  obtain ⟨z, hz⟩ : ∃ z : ByteArray, z = ⟨(noughtsL n).toArray⟩ := ⟨_, rfl⟩
  have HZ := hid hz
  have HZE := hid (fun wx => zeros_any n wx h3)
  rw [← hz] at HZE
  obtain ⟨W1, hW1⟩ : ∃ W1, W1 = w.alloc (.cells (newRow n mode (.slice none 0 0) (.slice none 0 0) (.slice none 0 0) (.slice none 0 0)) 38) := ⟨_, rfl⟩
  have HW1 : Hid (W1 = w.alloc (.cells #[.int .i64 n, .int .i64 mode, .slice none 0 0, .slice none 0 0, .slice none 0 0, .slice none 0 0, .slice none 0 0, .slice none 0 0, .slice none 0 0, .string ⟨#[]⟩, .int .i64 0, .int .i64 (-1), .string ⟨#[]⟩, .string ⟨#[]⟩, .slice none 0 0, .int .i64 0, .int .i64 0, .int .i64 0, .int .i64 (-1), .string ⟨#[]⟩] 38)) := hW1
  have M1 := hid (Made.start (w := w) (n := n) (mode := mode))
  rw [← hW1] at M1
  obtain ⟨cb, hcb⟩ : ∃ cb, cb = w.heap.size := ⟨_, rfl⟩
  rw [← hcb] at M1 ⊢
  have HCB := hid hcb
  obtain ⟨i0, hi0, hz0, hz1, hz2⟩ := info_parts infoXp
  obtain ⟨i1, hi1, hy0, hy1, hy2⟩ := info_parts infoIs
  obtain ⟨i2, hi2, hx0, hx1, hx2⟩ := info_parts infoSt
  clear ht hF hz hW1
  go_enter Tryz.func24, Tryz.ntmps24
  go_wp2_with fail
  rw [← HW1.out, ← HCB.out]
  refine (HZE.out _).mono ?_
  rintro e w2 ⟨rfl, hw2⟩
  subst w2
  clear hcb
  go_wp2_with fail
  go_loopw [8] (fun i wr => ∃ (k : Nat) (xv kv ov : Value) (b g : Nat → Nat), k ≤ n ∧ i = .int .i64 k ∧ Made w wr cb n mode xv kv (.slice none 0 0) ov k k k 0 b g) (fun i _ => n - (intOf i).toNat)
  case atStart => exact ⟨0, _, _, _, _, _, by omega, rfl, M1.out⟩
  case round =>
    obtain ⟨k, xv, kv, ov, b, g, hk, rfl, hM⟩ := hrel
    obtain ⟨xa, xc, hxv, hxl⟩ := ownsRow_form hM.xo
    obtain ⟨ka, kc, hkv, hkl⟩ := ownsRow_form hM.ko
    obtain ⟨oa, oc, hov, hol⟩ := ownsRow_form hM.oo
    by_cases hlt : k < n
    · have HNW := hid (new_yes k n wr h3 hlt)
      obtain ⟨w1, hw1⟩ : ∃ w1, w1 = wr.alloc (.cells (repArr k n Pc.empty Ext.zero) 69) := ⟨_, rfl⟩
      rw [← hw1] at HNW
      have b1 : Blw wr w1 := by rw [hw1]; exact (Blw.rfl wr).al _
      have hM1 := hM.blw b1
      have hnb : w1.heap[wr.heap.size]? = some (.cells (repArr k n Pc.empty Ext.zero) 69) := by rw [hw1]; exact hp_new wr _
      have hs0 : w.heap.size ≤ wr.heap.size := hM.bl.size
      have hsz1 : wr.heap.size < w1.heap.size := lt_of_blk hnb
      have hnb2 : ∀ j, j < k → b j ≠ wr.heap.size := fun j hj => by have := lt_of_blk (hM.rep j hj); omega
      have c2 : w1.cell? ⟨cb, 2, none⟩ = some (.slice xa k xc) := by rw [hM1.c, ← hxv]; rfl
      subst hxv hkv hov
      have M1' := hid (And.intro hM1 (And.intro hnb hnb2))
      have OX := hid (World.ownsRow.alloc hM1.xo (.cells #[.pointer (some ⟨wr.heap.size, 0, none⟩)] 29))
      clear hM hM1 hnb hnb2 hw1 b1
      go_wp2_with fail
      refine HNW.out.mono ?_
      rintro e w1' ⟨rfl, hw1'⟩
      subst w1'
      go_wp2_with (first | (at_builtin; refine wpList_append_lies _ rfl (.tmp 40) (.tmp 42) 30 rfl w.heap.size 29 i0 (.pointer none) 1 8 Tryz.underlying30 hi0 hz0 hz1 hz2 rfl (by decide) _ _ _ rfl OX.out ⟨w1.heap.size, 0, none⟩ 1 1 [.pointer (some ⟨wr.heap.size, 0, none⟩)] rfl rfl (cell_one_new _ _ _) (by intro u hu; simp at hu; subst hu; rfl) (by omega) (by unfold maxLen at *; omega) (by omega) (by simp; omega) (w1.heap.size + 1) (by simp) ?_))
      intro q2 cap2 w2 ho2 hg2 hat2 hlt2
      have MA := M1'.out.1.blw ((Blw.rfl w1).al (.cells #[.pointer (some ⟨wr.heap.size, 0, none⟩)] 29))
      have row2 := MA.cg MA.xo (by decide) hg2
      have c2' : w2.cell? ⟨cb, 2, none⟩ = some (.slice xa k xc) := by rw [blk_cell row2]; rfl
      have f2' : w2.frozen? ⟨cb, 2, none⟩ = false := blk_frozen row2 2
      have hM2 := MA.x_push hg2 (hp_old _ hsz1 M1'.out.2.1) hs0 M1'.out.2.2 ho2
      obtain ⟨W2, hW2⟩ : ∃ W2, W2 = w2.setCell ⟨cb, 2, none⟩ (.slice (some ⟨q2, 0, none⟩) (k + 1) cap2) := ⟨_, rfl⟩
      rw [← hW2] at hM2
      have HW2 := hid hW2
      have hs2 : w.heap.size ≤ W2.heap.size := hM2.bl.size
      have e3 : W2.drew.cell? ⟨cb, 3, none⟩ = some (.slice ka k kc) := by rw [(hM2.blw ((Blw.rfl W2).dr)).c]; rfl
      have M2' := hid hM2
      have MKN := HMK.out
      clear MA row2 hM2 hW2 ho2 hg2 hat2 hlt2 c2
      obtain ⟨V2, hV2⟩ : ∃ V2, V2 = (W2.drew.alloc (.cells (intsV (vecL n Vec.zero)) 3)).alloc (.cells #[.slice (some ⟨W2.heap.size, 0, none⟩) n n] 36) := ⟨_, rfl⟩
      have bV1 : Blw W2 (W2.drew.alloc (.cells (intsV (vecL n Vec.zero)) 3)) := ((Blw.rfl W2).dr).al _
      have bV2 : Blw W2 V2 := by rw [hV2]; exact bV1.al _
      have e3a : (W2.drew.alloc (.cells (intsV (vecL n Vec.zero)) 3)).cell? ⟨cb, 3, none⟩ = some (.slice ka k kc) := by rw [(M2'.out.blw bV1).c]; rfl
      have e3b : ((W2.drew.alloc (.cells (intsV (vecL n Vec.zero)) 3)).alloc (.cells #[.slice (some ⟨W2.heap.size, 0, none⟩) n n] 36)).cell? ⟨cb, 3, none⟩ = some (.slice ka k kc) := by rw [← hV2, (M2'.out.blw bV2).c]; rfl
      have e3c : (W2.alloc (.cells (intsV (vecL n Vec.zero)) 3)).drew.cell? ⟨cb, 3, none⟩ = some (.slice ka k kc) := e3a
      have e3d : ((W2.alloc (.cells (intsV (vecL n Vec.zero)) 3)).alloc (.cells #[.slice (some ⟨W2.heap.size, 0, none⟩) n n] 36)).drew.cell? ⟨cb, 3, none⟩ = some (.slice ka k kc) := e3b
      have hsV : V2.heap.size = W2.heap.size + 1 + 1 := by rw [hV2]; simp
      have hg1 : V2.heap[W2.heap.size]? = some (.cells (intsV (vecL n Vec.zero)) 3) := by rw [hV2]; exact hp_old _ (by simp) (hp_new W2.drew _)
      have hg0 : V2.heap[W2.heap.size + 1]? = some (.cells #[.slice (some ⟨W2.heap.size, 0, none⟩) n n] 36) := by rw [hV2]; exact hp_new2 W2.drew _ _
      have MV := M2'.out.blw bV2
      subst hV2
      have HV := hid (And.intro MV (And.intro hg1 (And.intro hg0 hsV)))
      have HGN := hid (fun j (hj : j < k) => by have := lt_of_blk (M2'.out.gs j hj); show g j ≠ W2.heap.size; omega)
      clear bV1 bV2 hg1 hg0 hsV MV
      go_wp2_with fail
      rw [← HW2.out]
      go_cut [] (fun wx => ∃ (q cap : Nat), Made w wx cb n mode (.slice (some ⟨q2, 0, none⟩) (k + 1) cap2) (.slice (some ⟨q, 0, none⟩) (k + 1) cap) (.slice none 0 0) (.slice oa k oc) (k + 1) (k + 1) k 0 (upd b k wr.heap.size) (upd g k W2.heap.size))
      case first =>
        clear HF c2' f2'
        go_region_law (first
            | ((refine step_append_lies _ (by rfl) _ _ _ (by rfl) w.heap.size 36 i1 _ 1 24 Tryz.underlying31 hi1 hy0 hy1 hy2 rfl (by omega) (.slice ka k kc) k (slcsV g n k) (by rfl) HV.out.1.ko ⟨W2.heap.size + 1, 0, none⟩ 1 1 [.slice (some ⟨W2.heap.size, 0, none⟩) n n] (by rfl) (by rfl) (World.news_of_block (t := 36) (fr := (0, 0)) HV.out.2.2.1) (by simp [Value.oneCell']) (by omega) (by unfold maxLen; omega) (by omega) (by show w.heap.size ≤ ((W2.drew.alloc (.cells (intsV (vecL n Vec.zero)) 3)).alloc (.cells #[.slice (some ⟨W2.heap.size, 0, none⟩) n n] 36)).heap.size; rw [HV.out.2.2.2]; omega) (W2.heap.size + 1 + 1) (show ((W2.drew.alloc (.cells (intsV (vecL n Vec.zero)) 3)).alloc (.cells #[.slice (some ⟨W2.heap.size, 0, none⟩) n n] 36)).heap.size = _ from HV.out.2.2.2) ?_; intro g6 cap6 w6 hown6 hgrow6 hat6 hlt6; have r6 := HV.out.1.cg HV.out.1.ko (by decide) hgrow6; have q6 : w6.cell? ⟨cb, 3, none⟩ = some (.slice ka k kc) := (by rw [blk_cell r6]; rfl); have fz6 := blk_frozen r6 3; have G6 := hid (And.intro hown6 hgrow6); clear hown6 hgrow6 hat6 r6)))
        all_goals
          go_wp2_with fail
          go_meet
          case rel => exact ⟨_, _, HV.out.1.k_push G6.out.2 HV.out.2.1 hs2 HGN.out G6.out.1⟩
      case rest =>
        obtain ⟨q3, cap3, hM3⟩ := hcut
        have c8 : wc.cell? ⟨cb, 8, none⟩ = some (.slice oa k oc) := by rw [hM3.c]; rfl
        have hs3 : w.heap.size ≤ wc.heap.size := hM3.bl.size
        have OO := hid (World.ownsRow.alloc hM3.oo (.cells #[.string z] 9))
        rw [← HZ.out] at OO
        have M3' := hid hM3
        clear hM3 c2' f2' e3 e3a e3b e3c e3d
        go_wp2_with (first | (at_builtin; refine wpList_append_lies _ rfl (.tmp 61) (.tmp 63) 34 rfl w.heap.size 9 i2 (.string ⟨#[]⟩) 1 16 Tryz.underlying34 hi2 hx0 hx1 hx2 rfl (by decide) _ _ _ rfl OO.out ⟨wc.heap.size, 0, none⟩ 1 1 [.string z] rfl rfl (cell_one_new _ _ _) (by intro u hu; simp at hu; subst hu; rfl) (by omega) (by unfold maxLen at *; omega) (by omega) (by simp; omega) (wc.heap.size + 1) (by simp) ?_))
        intro q4 cap4 w4 ho4 hg4 hat4 hlt4
        have MA := M3'.out.blw ((Blw.rfl wc).al (.cells #[.string z] 9))
        have row4 := MA.cg MA.oo (by decide) hg4
        have c8' : w4.cell? ⟨cb, 8, none⟩ = some (.slice oa k oc) := by rw [blk_cell row4]; rfl
        have f8' : w4.frozen? ⟨cb, 8, none⟩ = false := blk_frozen row4 8
        have hM4 := MA.o_push hg4 (by simpa using hat4) (by rw [← HZ.out]; exact ho4)
        obtain ⟨W4, hW4⟩ : ∃ W4, W4 = w4.setCell ⟨cb, 8, none⟩ (.slice (some ⟨q4, 0, none⟩) (k + 1) cap4) := ⟨_, rfl⟩
        rw [← hW4] at hM4
        have HW4 := hid hW4
        have M4' := hid hM4
        clear MA row4 hM4 hW4 ho4 hg4 hat4 hlt4 c8
        go_wp2_with fail
        rw [← HW4.out]
        go_roundw
        case rel => exact ⟨k + 1, _, _, _, _, _, by omega, by go_num, M4'.out⟩
        case measure => simp [intOf]; omega
    · have hkn : k = n := by omega
      subst hkn
      have M5 := hid hM
      clear hM hxv hkv hov
      go_wp2_with fail
      go_loopw [11] (fun i wx => ∃ (j : Nat) (T : Value), j ≤ 3 ∧ i = .int .i64 j ∧ Made w wx cb k mode xv kv T ov k k k j b g) (fun i _ => 3 - (intOf i).toNat)
      case atStart => exact ⟨0, _, by omega, rfl, M5.out⟩
      case round =>
        obtain ⟨j, T, hj, rfl, hT⟩ := hrel
        obtain ⟨ta, tc, htv, htl⟩ := ownsRow_form hT.to'
        by_cases hlt3 : j < 3
        · have hs0 : w.heap.size ≤ wr.heap.size := hT.bl.size
          subst htv
          have c7 : wr.cell? ⟨cb, 7, none⟩ = some (.slice ta j tc) := by rw [hT.c]; rfl
          have OT := hid (World.ownsRow.alloc hT.to' (.cells #[.string z] 9))
          rw [← HZ.out] at OT
          have MT := hid hT
          clear hT
          go_wp2_with (first | (at_builtin; refine wpList_append_lies _ rfl (.tmp 75) (.tmp 77) 34 rfl w.heap.size 9 i2 (.string ⟨#[]⟩) 1 16 Tryz.underlying34 hi2 hx0 hx1 hx2 rfl (by decide) _ _ _ rfl OT.out ⟨wr.heap.size, 0, none⟩ 1 1 [.string z] rfl rfl (cell_one_new _ _ _) (by intro u hu; simp at hu; subst hu; rfl) (by omega) (by unfold maxLen at *; omega) (by omega) (by simp; omega) (wr.heap.size + 1) (by simp) ?_))
          intro q4 cap4 w4 ho4 hg4 hat4 hlt4
          have MA := MT.out.blw ((Blw.rfl wr).al (.cells #[.string z] 9))
          have row4 := MA.cg MA.to' (by decide) hg4
          have c7' : w4.cell? ⟨cb, 7, none⟩ = some (.slice ta j tc) := by rw [blk_cell row4]; rfl
          have f7' : w4.frozen? ⟨cb, 7, none⟩ = false := blk_frozen row4 7
          have hM4 := MA.t_push hg4 (by simpa using hat4) (by rw [← HZ.out]; exact ho4)
          obtain ⟨W4, hW4⟩ : ∃ W4, W4 = w4.setCell ⟨cb, 7, none⟩ (.slice (some ⟨q4, 0, none⟩) (j + 1) cap4) := ⟨_, rfl⟩
          rw [← hW4] at hM4
          have HW4 := hid hW4
          have M4' := hid hM4
          clear MA row4 hM4 hW4 ho4 hg4 hat4 hlt4 c7
          go_wp2_with fail
          rw [← HW4.out]
          go_roundw
          case rel => exact ⟨j + 1, _, by omega, by go_num, M4'.out⟩
          case measure => simp [intOf]; omega
        · have hj3 : j = 3 := by omega
          subst hj3
          have FIN : Hid (F wr) := by
            show F _
            rw [HF.out]
            obtain ⟨m, h4, h5, h6⟩ := hT.at h1 h3 HT.out
            exact ⟨hT.bl, m, h4, by rw [h5, HCB.out], h6⟩
          clear hT
          go_wp2
          go_ret2
          exact ⟨rfl, FIN.out⟩
end Go.Proofs.YtalaldfgjgpacaaGreatDoor
