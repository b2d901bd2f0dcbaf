import Derived.Test.YtkeanpabacfdlaaGreatDoorQ1
namespace Go.Proofs.YtkeanpabacfdlaaGreatDoor
set_option linter.unusedVariables false
set_option linter.unusedSimpArgs false
open Go.RowKit

/-- How far 'with' has come. -/
def withTo (L : List Bs) (s : Bs) (k : Nat) (put : Bool) (out : List Bs) : Prop :=
  if put then out ++ L.drop k = withL L s else out = L.take k ∧ withL L s = L.take k ++ withL (L.drop k) s

theorem drop_idx (L : List Bs) (k : Nat) (h : k < L.length) : L.drop k = L.getD k [] :: L.drop (k + 1) := by
  rw [List.drop_eq_getElem_cons h]; simp [List.getD, h]

theorem withTo_zero (L : List Bs) (s : Bs) : withTo L s 0 false [] := by simp [withTo]

theorem withTo_put (L : List Bs) (s : Bs) (k : Nat) (out : List Bs) (hk : k < L.length) (h : withTo L s k true out) : withTo L s (k + 1) true (out ++ [L.getD k []]) := by
  simp only [withTo, if_true] at h ⊢
  rw [← h, drop_idx L k hk]; simp
theorem withTo_now (L : List Bs) (s : Bs) (k : Nat) (out : List Bs) (hk : k < L.length) (h : withTo L s k false out) (hlt : decide (s < L.getD k []) = true) : withTo L s (k + 1) true ((out ++ [s]) ++ [L.getD k []]) := by
  simp only [withTo, Bool.false_eq_true, if_false, if_true] at h ⊢
  obtain ⟨h1, h2⟩ := h
  rw [h2, drop_idx L k hk, withL, if_pos (by simpa using hlt), h1]; simp
theorem withTo_not (L : List Bs) (s : Bs) (k : Nat) (out : List Bs) (hk : k < L.length) (h : withTo L s k false out) (hlt : decide (s < L.getD k []) = false) : withTo L s (k + 1) false (out ++ [L.getD k []]) := by
  simp only [withTo, Bool.false_eq_true, if_false] at h ⊢
  obtain ⟨h1, h2⟩ := h
  refine ⟨by rw [h1, list_app_idx L k [] hk], ?_⟩
  rw [h2, drop_idx L k hk, withL, if_neg (by simpa using hlt), list_app_idx L k [] hk]; simp
theorem withTo_end1 (L : List Bs) (s : Bs) (out : List Bs) (h : withTo L s L.length true out) : out = withL L s := by
  simpa [withTo] using h
theorem withTo_end0 (L : List Bs) (s : Bs) (out : List Bs) (h : withTo L s L.length false out) : out ++ [s] = withL L s := by
  simp only [withTo, Bool.false_eq_true, if_false] at h
  rw [h.2, h.1]; simp [withL]

theorem ownBlw {w w' w0 : World} {v : Value} {L : List Bs} (hb : Blw w0 w) (h : Ls w w0.heap.size v L) (hg : w.grownBy w' v.ownBlock) : Blw w0 w' := by
  refine ⟨hg.os.trans hb.os, hg.tape.trans hb.tape, hg.output.trans hb.output, Nat.le_trans hb.sz hg.size, fun k hk => ?_⟩
  rw [hg.block k (Nat.lt_of_lt_of_le hk hb.sz) (fun e => by have := (World.ownsRow.lt h k e.symm).1; omega)]
  exact hb.bk k hk

theorem Ls.snoc {w : World} {base : Nat} {v : Value} {L : List Bs} {x : Bs} (h : w.ownsRow base 9 1 v (L.length + 1) (strs L ++ [strV x])) : Ls w base v (L ++ [x]) := by
  unfold Ls
  have e : strs (L ++ [x]) = strs L ++ [strV x] := by simp [strs]
  rw [e]; simpa using h

theorem one_cell_at (w : World) (v : Value) (t : TypeId) : ∀ j u, [v][j]? = some u → (w.alloc (.cells #[v] t)).cell? ((⟨w.heap.size, 0, none⟩ : Addr).add j) = some u := by
  intro j u hj
  match j, hj with
  | 0, hj => simp at hj; subst hj; simp [Addr.add]
theorem one_cell_one (l : Bs) : ∀ u ∈ [strV l], u.oneCell' = true := by
  intro u hu; simp at hu; subst hu; rfl

set_option maxRecDepth 100000 in
set_option maxHeartbeats 2000000 in
theorem with_any (L : List Bs) (s : Bs) (v : Value) (a : Nat) (w : World) (h : Ls w a v L) (hl : L.length ≤ 100000) :
    Calls Tryz.prog 107 #[v, strV s] w fun e w' => ∃ v', e = .returned v' ∧ Ls w' w.heap.size v' (withL L s) ∧ Blw w w' := by
  obtain ⟨ao, cap, rfl, hop⟩ := h.op
  have HO := hid hop
  have H := hid h
  clear h hop
  obtain ⟨i0, hi, hz0, hz1, hz2⟩ := info_parts infoS
  unfold strV
  go_enter Tryz.func107, Tryz.ntmps107
  go_wp2
  go_loopw [5, 6, 7] (fun o p i wr => ∃ (k : Nat) (b : Bool) (out : List Bs), k ≤ L.length ∧ i = .int .i64 k ∧ p = .bool b ∧ out.length ≤ k + (if b then 1 else 0) ∧ withTo L s k b out ∧ Ls wr w.heap.size o out ∧ Blw w wr) (fun _ _ i _ => L.length - (intOf i).toNat)
  case atStart => exact ⟨0, false, [], by omega, rfl, rfl, by simp, withTo_zero L s, Ls.nil _ _, Blw.rfl _⟩
  case round =>
    obtain ⟨k, b, out, hk, rfl, rfl, hol, hwt, hls, hbl⟩ := hrel
    have HW := hid hwt
    have HL := hid hls
    have HB := hid hbl
    have hsz := hbl.sz
    clear hwt hls hbl
    by_cases hlt : k < L.length
    · obtain ⟨g, rfl, hg, hc⟩ := HO.out (by omega)
      have hck := (bcell HB.out).1 g k hg
      rw [hc k hlt] at hck
      unfold strV at hck
      have HT1 := hid (withTo_put L s k)
      have HT2 := hid (withTo_now L s k)
      have HT3 := hid (withTo_not L s k)
      clear hc
      generalize hx : L.getD k [] = x at *
      have HX := hid hx
      clear hx
      cases b
      · have hol0 : out.length ≤ k := by simpa using hol
        cases hc : decide (s < x)
        · have hc' : Op.bytesLess s x = false := by rw [str_less]; exact hc
          have HC := hid hc
          clear hc
          go_wp2_with (first | (at_builtin; refine wpList_append_own _ rfl _ _ 75 rfl w.heap.size 9 i0 (.string ⟨#[]⟩) 1 16 Tryz.underlying75 hi hz0 hz1 hz2 rfl (by decide) _ _ _ rfl (World.ownsRow.alloc HL.out _) ⟨wr.heap.size, 0, none⟩ 1 1 [strV x] rfl rfl (one_cell_at _ _ _) (one_cell_one x) (by unfold maxLen; omega) (by omega) (by simp; omega) ?_))
          intro v' w1 ho' hgr _
          have R1 := hid (Ls.snoc ho')
          have R2 := hid (ownBlw (HB.out.al _) (World.ownsRow.alloc HL.out _) hgr)
          clear ho' hgr
          go_wp2
          go_roundw
          case rel => exact ⟨k + 1, false, out ++ [x], by omega, by go_num, rfl, by simp; omega, HT3.out out hlt HW.out HC.out, R1.out, R2.out⟩
          case measure => simp [intOf]; omega
        · have hc' : Op.bytesLess s x = true := by rw [str_less]; exact hc
          have HC := hid hc
          have HN := hid (HT2.out out hlt HW.out HC.out)
          clear hc
          go_wp2_with (first | (at_builtin; refine wpList_append_own _ rfl _ _ 75 rfl w.heap.size 9 i0 (.string ⟨#[]⟩) 1 16 Tryz.underlying75 hi hz0 hz1 hz2 rfl (by decide) _ _ _ rfl (World.ownsRow.alloc HL.out _) ⟨wr.heap.size, 0, none⟩ 1 1 [strV s] rfl rfl (one_cell_at _ _ _) (one_cell_one s) (by unfold maxLen; omega) (by omega) (by simp; omega) ?_))
          intro v' w1 ho' hgr _
          have R1 := hid (Ls.snoc ho')
          have R2 := hid (ownBlw (HB.out.al _) (World.ownsRow.alloc HL.out _) hgr)
          have hs1 := R2.out.sz
          have hck1 := (bcell R2.out).1 g k hg
          rw [← (bcell HB.out).1 g k hg, hck] at hck1
          clear ho' hgr hck
          have hl1 : (out ++ [s]).length = out.length + 1 := by simp
          generalize out ++ [s] = out1 at *
          go_wp2_with (first | (at_builtin; refine wpList_append_own _ rfl _ _ 75 rfl w.heap.size 9 i0 (.string ⟨#[]⟩) 1 16 Tryz.underlying75 hi hz0 hz1 hz2 rfl (by decide) _ _ _ rfl (World.ownsRow.alloc R1.out _) ⟨w1.heap.size, 0, none⟩ 1 1 [strV x] rfl rfl (one_cell_at _ _ _) (one_cell_one x) (by unfold maxLen; omega) (by omega) (by simp; omega) ?_))
          intro v2 w2 ho' hgr _
          rw [← hl1] at ho'
          have R3 := hid (Ls.snoc ho')
          have R4 := hid (ownBlw (R2.out.al _) (World.ownsRow.alloc R1.out _) hgr)
          clear ho' hgr
          go_wp2
          go_roundw
          case rel => exact ⟨k + 1, true, out1 ++ [x], by omega, by go_num, rfl, by simp; omega, HN.out, R3.out, R4.out⟩
          case measure => simp [intOf]; omega
      · have hol0 : out.length ≤ k + 1 := by simpa using hol
        go_wp2_with (first | (at_builtin; refine wpList_append_own _ rfl _ _ 75 rfl w.heap.size 9 i0 (.string ⟨#[]⟩) 1 16 Tryz.underlying75 hi hz0 hz1 hz2 rfl (by decide) _ _ _ rfl (World.ownsRow.alloc HL.out _) ⟨wr.heap.size, 0, none⟩ 1 1 [strV x] rfl rfl (one_cell_at _ _ _) (one_cell_one x) (by unfold maxLen; omega) (by omega) (by simp; omega) ?_))
        intro v' w1 ho' hgr _
        have R1 := hid (Ls.snoc ho')
        have R2 := hid (ownBlw (HB.out.al _) (World.ownsRow.alloc HL.out _) hgr)
        clear ho' hgr
        go_wp2
        go_roundw
        case rel => exact ⟨k + 1, true, out ++ [x], by omega, by go_num, rfl, by simp; omega, HT1.out out hlt HW.out, R1.out, R2.out⟩
        case measure => simp [intOf]; omega
    · have hkn : k = L.length := by omega
      subst hkn
      cases b
      · have hol0 : out.length ≤ L.length := by simpa using hol
        have HE := hid (withTo_end0 L s out HW.out)
        go_wp2_with (first | (at_builtin; refine wpList_append_own _ rfl _ _ 75 rfl w.heap.size 9 i0 (.string ⟨#[]⟩) 1 16 Tryz.underlying75 hi hz0 hz1 hz2 rfl (by decide) _ _ _ rfl (World.ownsRow.alloc HL.out _) ⟨wr.heap.size, 0, none⟩ 1 1 [strV s] rfl rfl (one_cell_at _ _ _) (one_cell_one s) (by unfold maxLen; omega) (by omega) (by simp; omega) ?_))
        intro v' w1 ho' hgr _
        have R1 := hid (Ls.snoc ho')
        have R2 := hid (ownBlw (HB.out.al _) (World.ownsRow.alloc HL.out _) hgr)
        clear ho' hgr
        go_wp2
        go_ret
        exact ⟨_, rfl, by rw [← HE.out]; exact R1.out, R2.out⟩
      · have HE := hid (withTo_end1 L s out HW.out)
        go_wp2
        go_ret
        exact ⟨_, rfl, by rw [← HE.out]; exact HL.out, HB.out⟩
end Go.Proofs.YtkeanpabacfdlaaGreatDoor
