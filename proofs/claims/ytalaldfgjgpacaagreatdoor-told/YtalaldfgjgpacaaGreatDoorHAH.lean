import Derived.Test.YtalaldfgjgpacaaGreatDoorHAG
import Derived.Deep.RegionWith
import Derived.Deep.DeepCutAuto
namespace Go.Proofs.YtalaldfgjgpacaaGreatDoor
set_option linter.unusedVariables false
set_option linter.unusedSimpArgs false
open Go.RowKit
attribute [local go_sem ↓] Go.wp_at_zero Go.wp_at_succ run_load63 run_store63
attribute [local go_sem] blkOf_mk offOf_mk isPt_mk isRow_pc Has_drew HasW_drew rowOf_drew

set_option maxRecDepth 100000 in
set_option maxHeartbeats 2000000 in
theorem remember_any (b me n : Nat) (p q : Pc) (x : Ext) (w : World) (h : w.heap[b]? = some (.cells (repArr me n p x) 69)) :
    Calls Tryz.prog 79 #[.pointer (some ⟨b, 0, none⟩), .agg q.arr] w fun e w' => e = .returned (.tuple #[]) ∧ RepTo b me n p (x.rem q) w w' := by
  have hbl := lt_of_blk h
  have H1 := hid (hp_old (.cells q.arr 65) hbl h)
  have H2 := hid (hp_new w (.cells q.arr 65))
  have hne : b ≠ w.heap.size := by omega
  have HK : Hid (x.kept = min 4 x.late.length) := rfl
  clear h
  go_enter Tryz.func79, Tryz.ntmps79
  go_wp2
  go_loopw [4] (fun i wr => ∃ k : Nat, k ≤ 3 ∧ i = .int .i64 k ∧ wr.heap[b]? = some (.cells (repArrF me n p x (shiftF x.lat k) x.tail) 69) ∧ wr.heap[w.heap.size]? = some (.cells q.arr 65) ∧ Bx b w wr) (fun i _ => (intOf i).toNat)
  case atStart =>
    refine ⟨3, by omega, rfl, ?_, H2.out, ((Blw.rfl w).al _).bx b⟩
    rw [repF_congr _ _ _ _ _ x.lat _ (shift_all x.lat), ← repF]; exact H1.out
  case round =>
    obtain ⟨k, hk, rfl, g1, g2, g3⟩ := hrel
    have G1 := hid g1
    have G2 := hid g2
    have G3 := hid g3
    have : k = 0 ∨ k = 1 ∨ k = 2 ∨ k = 3 := by omega
    clear g1 g2 g3 hk
    rcases this with rfl | rfl | rfl | rfl
    · have hw0 := HasW_repF G1.out 0 (by omega)
      have hrow := rowOf_pc G2.out
      have hhas := Has_pc G2.out
      have c1 : (putRowAt wr.drew b (139 + 0 * 135) (.agg q.arr)).cell? ⟨b, 679, none⟩ = some (.int .i64 x.kept) := by
        rw [blk_cell (put_repF (w := wr.drew) G1.out 0 (by omega))]; exact repF_tail _ _ _ _ _ _ 0
      simp only [Nat.zero_mul, Nat.add_zero] at hw0 c1
      have N1 := hid (put_repF (w := wr.drew) (q := q) G1.out 0 (by omega))
      rw [repF_congr _ _ _ _ _ (x.rem q).lat _ (fun j _ => shift_end x q j)] at N1
      simp only [Nat.zero_mul, Nat.add_zero] at N1
      have N3 : Hid (Bx b w (putRowAt wr.drew b 139 (.agg q.arr))) := put_bx (G3.out.tr (Blw.bx (Blw.dr (Blw.rfl _)) b)) _ _
      have f1 := blk_frozen N1.out 679
      clear G1 G2 G3
      go_wp2_with fail
      go_region
      clear hw0 hrow hhas
      generalize putRowAt wr.drew b 139 (.agg q.arr) = w3 at *
      by_cases hk4 : x.kept < 4
      · have d4 : decide ((x.kept : Int) < 4) = true := by simp; omega
        have F : Hid ((w3.setCell ⟨b, 679, none⟩ (.int .i64 ((x.kept : Int) + 1))).heap[b]? = some (.cells (repArr me n p (x.rem q)) 69)) := by
          have e := heap_setCell_self (o := 679) N1.out (.int .i64 ((x.kept : Int) + 1))
          rw [repF_set _ _ _ _ _ _ 0 _ (by simp [Ext.tail])] at e
          have ek : ((x.rem q).kept : Int) = (x.kept : Int) + 1 := by simp only [Ext.kept, Ext.rem, List.length_cons] at *; omega
          show _ = _
          rw [e, repF]
          have : (x.rem q).tail = x.tail.set 0 (.int .i64 ((x.kept : Int) + 1)) := by
            show [Value.int .i64 ((x.rem q).kept : Int), _, _, _] = _
            rw [ek]; rfl
          rw [this]; exact congrArg (fun C => some (Obj.cells C _)) (repF_x _ _ _ _ _ _ _ rfl rfl)
        have F3 : Hid (Bx b w (w3.setCell ⟨b, 679, none⟩ (.int .i64 ((x.kept : Int) + 1)))) := N3.out.sc _ _
        clear N1 N3 HK
        generalize x.kept = kp at *
        go_wp2
        go_end0
        exact ⟨rfl, F.out, F3.out⟩
      · have d4 : decide ((x.kept : Int) < 4) = false := by simp; omega
        have F : Hid (w3.heap[b]? = some (.cells (repArr me n p (x.rem q)) 69)) := by
          have ek : (x.rem q).kept = x.kept := by simp only [Ext.kept, Ext.rem, List.length_cons] at *; omega
          show _ = _
          rw [N1.out, repF]
          have : (x.rem q).tail = x.tail := by
            show [Value.int .i64 ((x.rem q).kept : Int), _, _, _] = _
            rw [ek]; rfl
          rw [this]; exact congrArg (fun C => some (Obj.cells C _)) (repF_x _ _ _ _ _ _ _ rfl rfl)
        clear N1 HK
        generalize x.kept = kp at *
        go_wp2
        go_end0
        exact ⟨rfl, F.out, N3.out⟩
    · have hw0 := HasW_repF G1.out 1 (by omega)
      have hrow := rowOf_repF G1.out 0 (by omega)
      have hhas := Has_repF G1.out 0 (by omega)
      rw [shift_at] at hrow
      have N1 := hid (put_repF (w := wr.drew) (q := x.lat 0) G1.out 1 (by omega))
      rw [repF_congr _ _ _ _ _ (shiftF x.lat 0) _ (fun j _ => shift_step x.lat 0 j)] at N1
      simp only [Nat.zero_mul, Nat.one_mul, Nat.add_zero, Nat.reduceAdd, Nat.reduceMul] at hw0 hrow hhas N1
      have N2 : Hid ((putRowAt wr.drew b 274 (.agg (x.lat 0).arr)).heap[w.heap.size]? = some (.cells q.arr 65)) := by show _ = _; rw [put_ne (fun e => hne e.symm)]; exact G2.out
      have N3 : Hid (Bx b w (putRowAt wr.drew b 274 (.agg (x.lat 0).arr))) := put_bx (G3.out.tr (Blw.bx (Blw.dr (Blw.rfl _)) b)) _ _
      clear G1 G2 G3
      go_wp2_with fail
      go_region
      go_wp2_with fail
      go_roundw
      case rel => exact ⟨0, by omega, by go_num, N1.out, N2.out, N3.out⟩
      case measure => simp [intOf]
    · have hw0 := HasW_repF G1.out 2 (by omega)
      have hrow := rowOf_repF G1.out 1 (by omega)
      have hhas := Has_repF G1.out 1 (by omega)
      rw [shift_at] at hrow
      have N1 := hid (put_repF (w := wr.drew) (q := x.lat 1) G1.out 2 (by omega))
      rw [repF_congr _ _ _ _ _ (shiftF x.lat 1) _ (fun j _ => shift_step x.lat 1 j)] at N1
      simp only [Nat.zero_mul, Nat.one_mul, Nat.add_zero, Nat.reduceAdd, Nat.reduceMul] at hw0 hrow hhas N1
      have N2 : Hid ((putRowAt wr.drew b 409 (.agg (x.lat 1).arr)).heap[w.heap.size]? = some (.cells q.arr 65)) := by show _ = _; rw [put_ne (fun e => hne e.symm)]; exact G2.out
      have N3 : Hid (Bx b w (putRowAt wr.drew b 409 (.agg (x.lat 1).arr))) := put_bx (G3.out.tr (Blw.bx (Blw.dr (Blw.rfl _)) b)) _ _
      clear G1 G2 G3
      go_wp2_with fail
      go_region
      go_wp2_with fail
      go_roundw
      case rel => exact ⟨1, by omega, by go_num, N1.out, N2.out, N3.out⟩
      case measure => simp [intOf]
    · have hw0 := HasW_repF G1.out 3 (by omega)
      have hrow := rowOf_repF G1.out 2 (by omega)
      have hhas := Has_repF G1.out 2 (by omega)
      rw [shift_at] at hrow
      have N1 := hid (put_repF (w := wr.drew) (q := x.lat 2) G1.out 3 (by omega))
      rw [repF_congr _ _ _ _ _ (shiftF x.lat 2) _ (fun j _ => shift_step x.lat 2 j)] at N1
      simp only [Nat.zero_mul, Nat.one_mul, Nat.add_zero, Nat.reduceAdd, Nat.reduceMul] at hw0 hrow hhas N1
      have N2 : Hid ((putRowAt wr.drew b 544 (.agg (x.lat 2).arr)).heap[w.heap.size]? = some (.cells q.arr 65)) := by show _ = _; rw [put_ne (fun e => hne e.symm)]; exact G2.out
      have N3 : Hid (Bx b w (putRowAt wr.drew b 544 (.agg (x.lat 2).arr))) := put_bx (G3.out.tr (Blw.bx (Blw.dr (Blw.rfl _)) b)) _ _
      clear G1 G2 G3
      go_wp2_with fail
      go_region
      go_wp2_with fail
      go_roundw
      case rel => exact ⟨2, by omega, by go_num, N1.out, N2.out, N3.out⟩
      case measure => simp [intOf]

end Go.Proofs.YtalaldfgjgpacaaGreatDoor

namespace Go.Proofs.YtalaldfgjgpacaaGreatDoor
set_option linter.unusedVariables false
set_option linter.unusedSimpArgs false
open Go.RowKit
attribute [local go_sem ↓] Go.wp_at_zero Go.wp_at_succ run_load63 run_store63
attribute [local go_sem] blkOf_mk offOf_mk isPt_mk isRow_pc Has_drew HasW_drew rowOf_drew

set_option maxRecDepth 100000 in
set_option maxHeartbeats 2000000 in
theorem learn_any (b me n : Nat) (p q : Pc) (x : Ext) (w : World) (hq : q.ok) (hx : x.small) (ht : Tab Tryz.prog w) (h : w.heap[b]? = some (.cells (repArr me n p x) 69)) :
    Calls Tryz.prog 33 #[.pointer (some ⟨b, 0, none⟩), .agg q.arr] w fun e w' => e = .returned (.tuple #[]) ∧ RepTo b me n (p.join q) (x.next q) w w' := by
  have hbl := lt_of_blk h
  have B0 : Hid (Blw w (w.alloc (.cells q.arr 65))) := (Blw.rfl _).al _
  have H1 := hid (B0.out.bk' h)
  have H2 := hid (hp_new w (.cells q.arr 65))
  have hne : b ≠ w.heap.size := by omega
  have HT := hid (takeIn_any b me n p q x _ hq hx (ht.blw B0.out) H1.out)
  have HR := hid (fun wx hw => remember_any b me n (p.join q) q (x.take q) wx hw)
  have hrow := rowOf_pc H2.out
  have hhas := Has_pc H2.out
  clear h ht hq hx
  go_enter Tryz.func33, Tryz.ntmps33
  go_wp2_with fail
  refine HT.out.mono ?_
  rintro e w1 ⟨rfl, r1⟩
  have R1 := hid r1
  have g2 := (r1.2.block w.heap.size (lt_of_blk H2.out) hne.symm).trans H2.out
  clear hrow hhas r1
  have hrow := rowOf_pc g2
  have hhas := Has_pc g2
  clear g2
  go_wp2_with fail
  refine (HR.out _ R1.out.1).mono ?_
  rintro e w2 ⟨rfl, r2⟩
  go_wp2
  go_end0
  exact ⟨rfl, r2.1, ((B0.out.bx b).tr R1.out.2).tr r2.2⟩
end Go.Proofs.YtalaldfgjgpacaaGreatDoor

namespace Go.Proofs.YtalaldfgjgpacaaGreatDoor
set_option linter.unusedVariables false
set_option linter.unusedSimpArgs false
open Go.RowKit
variable {xt : Ext}
attribute [local go_sem ↓] Go.wp_at_zero Go.wp_at_succ run_load63 run_store63
attribute [local go_sem] blkOf_mk offOf_mk isPt_mk isRow_pc Has_drew HasW_drew rowOf_drew HasW_new Has_alloc rowOf_alloc


theorem zle63 : 0 + 135 ≤ Tryz.zeroCells65.size := by rw [zsize63]; decide

theorem putA {w w2 w3 : World} {b me n : Nat} {p q : Pc} (hw : Blw w w2) (g : w2.heap[b]? = some (.cells (repArr me n p xt) 69)) (b3 : Blw w2.drew w3) :
    (putRowAt (w3.alloc (.cells Tryz.zeroCells65 65)) w3.heap.size 0 (.agg q.arr)).heap[w3.heap.size]? = some (.cells q.arr 65) ∧ (putRowAt (w3.alloc (.cells Tryz.zeroCells65 65)) w3.heap.size 0 (.agg q.arr)).heap[b]? = some (.cells (repArr me n p xt) 69) ∧ Blw w (putRowAt (w3.alloc (.cells Tryz.zeroCells65 65)) w3.heap.size 0 (.agg q.arr)) := by
  have h3 := b3.bk' (drew_blk g)
  have hw3 : Blw w w3 := hw.tr (Blw.tr (Blw.dr (Blw.rfl _)) b3)
  refine ⟨put_new, ?_, put_blw (hw3.al _) _ _ hw3.sz⟩
  rw [put_ne (Nat.ne_of_lt (lt_of_blk h3))]
  exact hp_old _ (lt_of_blk h3) h3
theorem putB {w w2 w3 : World} {b me n : Nat} {p q : Pc} (hw : Blw w w2) (g : w2.heap[b]? = some (.cells (repArr me n p xt) 69)) (b3 : Blw (w2.alloc (.cells Tryz.zeroCells65 65)).drew w3) :
    (putRowAt w3 w2.heap.size 0 (.agg q.arr)).heap[w2.heap.size]? = some (.cells q.arr 65) ∧ (putRowAt w3 w2.heap.size 0 (.agg q.arr)).heap[b]? = some (.cells (repArr me n p xt) 69) ∧ Blw w (putRowAt w3 w2.heap.size 0 (.agg q.arr)) := by
  have hn := b3.bk' (hp_new w2 (.cells Tryz.zeroCells65 65))
  have h3 := b3.bk' (drew_blk (hp_old (.cells Tryz.zeroCells65 65) (lt_of_blk g) g))
  have hw3 : Blw w w3 := (hw.al _).tr (Blw.tr (Blw.dr (Blw.rfl _)) b3)
  refine ⟨put_pc hn zsize63, ?_, put_blw hw3 _ _ hw.sz⟩
  rw [put_ne (Nat.ne_of_lt (lt_of_blk g))]
  exact h3

set_option maxRecDepth 100000 in
set_option maxHeartbeats 2000000 in
theorem putEvent_yes (b me n : Nat) (p q : Pc) (s : ByteArray) (c it v : Int) (w : World) (hn : n ≤ 3) (hme : me < n) (hs : s.size ≤ maxLen) (h : w.heap[b]? = some (.cells (repArr me n p xt) 69)) (hE : evErr me n p s.data.toList = 0)
    (hc0 : 0 ≤ c) (hc1 : c < 3) (hi0 : 0 ≤ it) (hi1 : it < 4) (hv0 : -99 ≤ v) (hv1 : v ≤ 99) (hq : (q.put me (p.count (me : Int)) ⟨true, true, c, it, v⟩).ok) (hx : xt.small) (ht : Tab Tryz.prog w) :
    Calls Tryz.prog 89 #[.pointer (some ⟨b, 0, none⟩), .string s, .agg q.arr, .agg #[.int .i64 c, .int .i64 it, .int .i64 v]] w fun e w' => e = .returned (.tuple #[.string ⟨((p.join (q.put me (p.count (me : Int)) ⟨true, true, c, it, v⟩)).digsTo n).toArray⟩, .int .i64 0]) ∧ RepTo b me n (p.join (q.put me (p.count (me : Int)) ⟨true, true, c, it, v⟩)) (xt.next (q.put me (p.count (me : Int)) ⟨true, true, c, it, v⟩)) w w' := by
  have hbl := lt_of_blk h
  have hcnt : p.count (me : Int) < 9 := by
    rcases Nat.lt_or_ge (p.count (me : Int)) 9 with h9 | h9
    · exact h9
    · unfold evErr at hE
      split at hE
      · cases hE
      · exact absurd hE ‹_›
  have H1 := hid (show ((w.alloc (.cells q.arr 65)).alloc (.cells #[.int .i64 c, .int .i64 it, .int .i64 v] 59)).heap[b]? = some (.cells (repArr me n p xt) 69) from hp_old _ (by simp; omega) (hp_old _ hbl h))
  have HC := hid (checkEvent_any b me n p s ((w.alloc (.cells q.arr 65)).alloc (.cells #[.int .i64 c, .int .i64 it, .int .i64 v] 59)) hn hs H1.out)
  rw [hE] at HC
  have HN := hid (fun wx hx => nextNumber_any (xt := xt) b me n p wx hx)
  generalize p.count (me : Int) = d at *
  have HW := hid (fun wx => withEntry_any q me d c it v wx (by omega) hcnt hc0 hc1 hi0 hi1 hv0 hv1)
  have HQ := hid hq
  have HX := hid hx
  have TB := hid ht
  clear h hE hq hx ht
  go_enter Tryz.func89, Tryz.ntmps89
  go_wp2_with fail
  refine HC.out.mono ?_
  rintro e w0 ⟨rfl, b0⟩
  go_wp2_with fail
  refine (HN.out _ ((b0.bk b (by simp; omega)).trans H1.out)).mono ?_
  rintro e w2 ⟨rfl, b2⟩
  have B2 := hid (b0.tr b2)
  have G0 := hid ((B2.out.bk b (by simp; omega)).trans H1.out)
  have G1 := hid ((B2.out.bk w.heap.size (by simp; omega)).trans (hp_old _ (by simp) (hp_new _ _)))
  have G2 : Hid (w2.heap[w.heap.size + 1]? = some (.cells #[.int .i64 c, .int .i64 it, .int .i64 v] 59)) := (B2.out.bk (w.heap.size + 1) (by simp)).trans (by simpa using hp_new (w.alloc (.cells q.arr 65)) _)
  have hrow := rowOf_pc G1.out
  have hhas := Has_pc G1.out
  have hmec := rep_me G0.out
  have e0 : w2.cell? ⟨w.heap.size + 1, 0, none⟩ = some (.int .i64 c) := blk_cell G2.out 0
  have e1 : w2.cell? ⟨w.heap.size + 1, 1, none⟩ = some (.int .i64 it) := blk_cell G2.out 1
  have e2 : w2.cell? ⟨w.heap.size + 1, 2, none⟩ = some (.int .i64 v) := blk_cell G2.out 2
  have HWW : Hid (Blw w w2) := Blw.tr (((Blw.rfl _).al _).al _) B2.out
  have z0 := lt_of_blk G0.out
  have z1 := lt_of_blk G1.out
  have z2 := lt_of_blk G2.out
  clear b0 b2
  go_wp2_with fail
  go_cut [12] (fun s w' => ∃ nb, s = .pointer (some ⟨nb, 0, none⟩) ∧ w'.heap[nb]? = some (.cells (q.put me d ⟨true, true, c, it, v⟩).arr 65) ∧ w'.heap[b]? = some (.cells (repArr me n p xt) 69) ∧ Blw w w')
  case first =>
    go_region_with (first | (go_at_call 139; refine (HW.out _).mono ?_; rintro e w3 ⟨rfl, b3⟩; have sz3 : w2.heap.size ≤ w3.heap.size := (by have := b3.sz; simp at this; omega); (first | (have hW3 : HasW w3 w2.heap.size 0 := HasW_of (b3.bk' (hp_new w2 (.cells Tryz.zeroCells65 65))) zle63; have R := hid (putB (q := q.put me d ⟨true, true, c, it, v⟩) HWW.out G0.out b3)) | (have R := hid (putA (q := q.put me d ⟨true, true, c, it, v⟩) HWW.out G0.out b3)))))
    all_goals
      go_wp2_with fail
      go_meet
      case rel => exact ⟨_, rfl, R.out⟩
  case rest =>
    obtain ⟨nb, rfl, hn1, hn2, hn3⟩ := hcut
    have hrow' := rowOf_pc hn1
    have hhas' := Has_pc hn1
    have K := hid (And.intro hn2 hn3)
    clear hn1 hn2 hn3 hrow hhas hmec e0 e1 e2
    have HL := hid (fun wx hx' ht' => learn_any b me n p (q.put me d ⟨true, true, c, it, v⟩) xt wx HQ.out HX.out ht' hx')
    have HD := hid (fun wx hx => counts_any (xt := xt.next (q.put me d ⟨true, true, c, it, v⟩)) b me n (p.join (q.put me d ⟨true, true, c, it, v⟩)) wx hn hx)
    go_wp2_with fail
    refine (HL.out _ K.out.1 (TB.out.blw K.out.2)).mono ?_
    rintro e w4 ⟨rfl, h4⟩
    go_wp2_with fail
    refine (HD.out _ h4.1).mono ?_
    rintro e w5 ⟨rfl, b5⟩
    go_wp2
    go_ret2
    exact ⟨rfl, b5.bk' h4.1, Bx.tr (Bx.tr (Blw.bx K.out.2 b) h4.2) (Blw.bx b5 b)⟩
end Go.Proofs.YtalaldfgjgpacaaGreatDoor

namespace Go.Proofs.YtalaldfgjgpacaaGreatDoor
set_option linter.unusedVariables false
set_option linter.unusedSimpArgs false
open Go.RowKit
variable {xt : Ext}
attribute [local go_sem ↓] Go.wp_at_zero Go.wp_at_succ run_load63 run_store63
attribute [local go_sem] blkOf_mk offOf_mk isPt_mk isRow_pc Has_drew HasW_drew rowOf_drew HasW_new Has_alloc rowOf_alloc

set_option maxRecDepth 100000 in
set_option maxHeartbeats 400000 in
theorem takeEvent_no (b me n : Nat) (p q : Pc) (s : ByteArray) (w : World) (hn : n ≤ 3) (hs : s.size ≤ maxLen) (h : w.heap[b]? = some (.cells (repArr me n p xt) 69)) (hE : evErr me n p s.data.toList ≠ 0) :
    Calls Tryz.prog 95 #[.pointer (some ⟨b, 0, none⟩), .string s, .agg q.arr] w fun e w' => e = .returned (.tuple #[.string ⟨#[]⟩, .int .i64 (evErr me n p s.data.toList)]) ∧ Blw w w' := by
  have hbl := lt_of_blk h
  have HC := hid (checkEvent_any b me n p s (w.alloc (.cells q.arr 65)) hn hs (hp_old _ hbl h))
  generalize evErr me n p s.data.toList = ee at *
  have he : (ee != 0) = true := by simp [hE]
  clear hE h
  go_enter Tryz.func95, Tryz.ntmps95
  go_wp2_with fail
  refine HC.out.mono ?_
  rintro e w0 ⟨rfl, b0⟩
  go_wp2
  go_ret2
  exact ⟨rfl, Blw.tr ((Blw.rfl _).al _) b0⟩

set_option maxRecDepth 100000 in
set_option maxHeartbeats 2000000 in
theorem takeEvent_yes (b me n : Nat) (p q : Pc) (s : ByteArray) (w : World) (hn : n ≤ 3) (hme : me < n) (hs : s.size ≤ maxLen) (h : w.heap[b]? = some (.cells (repArr me n p xt) 69)) (hE : evErr me n p s.data.toList = 0) (hq : (q.put me (p.count (me : Int)) { q me (p.count (me : Int)) with known := true }).ok) (hx : xt.small) (ht : Tab Tryz.prog w) :
    Calls Tryz.prog 95 #[.pointer (some ⟨b, 0, none⟩), .string s, .agg q.arr] w fun e w' => e = .returned (.tuple #[.string ⟨((p.join (q.put me (p.count (me : Int)) { q me (p.count (me : Int)) with known := true })).digsTo n).toArray⟩, .int .i64 0]) ∧ RepTo b me n (p.join (q.put me (p.count (me : Int)) { q me (p.count (me : Int)) with known := true })) (xt.next (q.put me (p.count (me : Int)) { q me (p.count (me : Int)) with known := true })) w w' := by
  have hbl := lt_of_blk h
  have hcnt : p.count (me : Int) < 9 := by
    rcases Nat.lt_or_ge (p.count (me : Int)) 9 with h9 | h9
    · exact h9
    · unfold evErr at hE
      split at hE
      · cases hE
      · exact absurd hE ‹_›
  have H1 := hid (show (w.alloc (.cells q.arr 65)).heap[b]? = some (.cells (repArr me n p xt) 69) from hp_old _ hbl h)
  have HC := hid (checkEvent_any b me n p s (w.alloc (.cells q.arr 65)) hn hs H1.out)
  rw [hE] at HC
  have HN := hid (fun wx hx => nextNumber_any (xt := xt) b me n p wx hx)
  generalize p.count (me : Int) = d at *
  have HW := hid (fun wx => withDot_any q me d wx (by omega) hcnt)
  clear h hE
  have HQ := hid hq
  have HX := hid hx
  have TB := hid ht
  clear hq hx ht
  go_enter Tryz.func95, Tryz.ntmps95
  go_wp2_with fail
  refine HC.out.mono ?_
  rintro e w0 ⟨rfl, b0⟩
  go_wp2_with fail
  refine (HN.out _ ((b0.bk b (by simp; omega)).trans H1.out)).mono ?_
  rintro e w2 ⟨rfl, b2⟩
  have B2 := hid (b0.tr b2)
  have G0 := hid ((B2.out.bk b (by simp; omega)).trans H1.out)
  have G1 := hid ((B2.out.bk w.heap.size (by simp)).trans (hp_new _ _))
  have hrow := rowOf_pc G1.out
  have hhas := Has_pc G1.out
  have hmec := rep_me G0.out
  have HWW : Hid (Blw w w2) := Blw.tr ((Blw.rfl _).al _) B2.out
  have z0 := lt_of_blk G0.out
  have z1 := lt_of_blk G1.out
  clear b0 b2
  go_wp2_with fail
  go_cut [10] (fun s w' => ∃ nb, s = .pointer (some ⟨nb, 0, none⟩) ∧ w'.heap[nb]? = some (.cells (q.put me d { q me d with known := true }).arr 65) ∧ w'.heap[b]? = some (.cells (repArr me n p xt) 69) ∧ Blw w w')
  case first =>
    go_region_with (first | (go_at_call 143; refine (HW.out _).mono ?_; rintro e w3 ⟨rfl, b3⟩; have sz3 : w2.heap.size ≤ w3.heap.size := (by have := b3.sz; simp at this; omega); (first | (have hW3 : HasW w3 w2.heap.size 0 := HasW_of (b3.bk' (hp_new w2 (.cells Tryz.zeroCells65 65))) zle63; have R := hid (putB (q := q.put me d { q me d with known := true }) HWW.out G0.out b3)) | (have R := hid (putA (q := q.put me d { q me d with known := true }) HWW.out G0.out b3)))))
    all_goals
      go_wp2_with fail
      go_meet
      case rel => exact ⟨_, rfl, R.out⟩
  case rest =>
    obtain ⟨nb, rfl, hn1, hn2, hn3⟩ := hcut
    have hrow' := rowOf_pc hn1
    have hhas' := Has_pc hn1
    have K := hid (And.intro hn2 hn3)
    clear hn1 hn2 hn3 hrow hhas hmec
    have HL := hid (fun wx hx' ht' => learn_any b me n p (q.put me d { q me d with known := true }) xt wx HQ.out HX.out ht' hx')
    have HD := hid (fun wx hx => counts_any (xt := xt.next (q.put me d { q me d with known := true })) b me n (p.join (q.put me d { q me d with known := true })) wx hn hx)
    go_wp2_with fail
    refine (HL.out _ K.out.1 (TB.out.blw K.out.2)).mono ?_
    rintro e w4 ⟨rfl, h4⟩
    go_wp2_with fail
    refine (HD.out _ h4.1).mono ?_
    rintro e w5 ⟨rfl, b5⟩
    go_wp2
    go_ret2
    exact ⟨rfl, b5.bk' h4.1, Bx.tr (Bx.tr (Blw.bx K.out.2 b) h4.2) (Blw.bx b5 b)⟩
end Go.Proofs.YtalaldfgjgpacaaGreatDoor

namespace Go.Proofs.YtalaldfgjgpacaaGreatDoor
set_option linter.unusedVariables false
set_option linter.unusedSimpArgs false
open Go.RowKit
variable {xt : Ext}
attribute [local go_sem ↓] Go.wp_at_zero Go.wp_at_succ run_load63 run_store63
attribute [local go_sem] blkOf_mk offOf_mk isPt_mk isRow_pc Has_drew HasW_drew rowOf_drew HasW_new

def cartB3 (c : Int) : Bool := decide (0 ≤ c) && decide (c < 3)
def itemB4 (c : Int) : Bool := decide (0 ≤ c) && decide (c < 4)

set_option maxHeartbeats 400000 in
theorem isCart_any (c : Int) (w : World) : Calls Tryz.prog 96 #[.int .i64 c] w fun e w' => e = .returned (.bool (cartB3 c)) ∧ w' = w := by
  by_cases h0 : 0 ≤ c
  · have h0' : decide (0 ≤ c) = true := by simpa using h0
    have HR : Hid (cartB3 c = decide (c < 3)) := by show cartB3 c = _; simp [cartB3, h0]
    generalize cartB3 c = r at *
    go_enter Tryz.func96, Tryz.ntmps96
    go_wp2
    go_ret
    exact ⟨by rw [HR.out]; rfl, rfl⟩
  · have h0' : decide (0 ≤ c) = false := by simpa using h0
    have HR : Hid (cartB3 c = false) := by show cartB3 c = _; simp [cartB3, h0]
    generalize cartB3 c = r at *
    go_enter Tryz.func96, Tryz.ntmps96
    go_wp2
    go_ret
    exact ⟨by rw [HR.out]; rfl, rfl⟩

set_option maxHeartbeats 400000 in
theorem isPlace_any (c it : Int) (w : World) : Calls Tryz.prog 88 #[.int .i64 c, .int .i64 it] w fun e w' => e = .returned (.bool (itemB4 it && cartB3 c)) ∧ w' = w := by
  by_cases h0 : 0 ≤ it
  · by_cases h4 : it < 4
    · have h0' : decide (it < 0) = false := by simp; omega
      have h4' : decide (4 ≤ it) = false := by simp; omega
      have HR : Hid ((itemB4 it && cartB3 c) = cartB3 c) := by show (itemB4 it && cartB3 c) = _; simp [itemB4, h0, h4]
      generalize (itemB4 it && cartB3 c) = r at *
      have HC := hid (isCart_any c w)
      generalize cartB3 c = r2 at *
      go_enter Tryz.func88, Tryz.ntmps88
      go_wp2_with fail
      refine HC.out.mono ?_
      rintro e w1 ⟨rfl, rfl⟩
      go_wp2
      go_ret
      exact ⟨by rw [HR.out]; rfl, rfl⟩
    · have h0' : decide (it < 0) = false := by simp; omega
      have h4' : decide (4 ≤ it) = true := by simp; omega
      have HR : Hid ((itemB4 it && cartB3 c) = false) := by show (itemB4 it && cartB3 c) = _; simp [itemB4, h4]
      generalize (itemB4 it && cartB3 c) = r at *
      go_enter Tryz.func88, Tryz.ntmps88
      go_wp2
      go_ret
      exact ⟨by rw [HR.out]; rfl, rfl⟩
  · have h0' : decide (it < 0) = true := by simp; omega
    have HR : Hid ((itemB4 it && cartB3 c) = false) := by show (itemB4 it && cartB3 c) = _; simp [itemB4, h0]
    generalize (itemB4 it && cartB3 c) = r at *
    go_enter Tryz.func88, Tryz.ntmps88
    go_wp2
    go_ret
    exact ⟨by rw [HR.out]; rfl, rfl⟩

set_option maxRecDepth 100000 in
set_option maxHeartbeats 1000000 in
theorem state_any (b me n : Nat) (p : Pc) (w : World) (hn : n ≤ 3) (hp : p.ok) (h : w.heap[b]? = some (.cells (repArr me n p xt) 69)) :
    Calls Tryz.prog 19 #[.pointer (some ⟨b, 0, none⟩)] w fun e w' => e = .returned (.string ⟨(p.digsTo n ++ [59] ++ p.entTo 12).toArray⟩) ∧ Blw w w' := by
  have HD := hid (counts_any b me n p w hn h)
  have HE := hid (fun wx => entriesText_any p hp wx)
  have H := hid h
  have l1 := digsTo_len p n
  have l2 := entTo_len p 12
  have HX : Hid (p.digsTo n ++ [59] ++ p.entTo 12 = p.digsTo n ++ [59] ++ p.entTo 12) := rfl
  obtain ⟨t, ht⟩ : ∃ t, t = p.digsTo n ++ [59] ++ p.entTo 12 := ⟨_, rfl⟩
  rw [← ht]
  have HT := hid ht
  clear ht HX hp h
  generalize p.digsTo n = t1 at *
  generalize p.entTo 12 = t2 at *
  go_enter Tryz.func19, Tryz.ntmps19
  go_wp2_with fail
  refine HD.out.mono ?_
  rintro e w1 ⟨rfl, b1⟩
  have g1 := b1.bk' H.out
  have hrow := rowOf_rep g1
  have hhas := Has_rep g1
  have B1 := hid b1
  clear g1 b1
  go_wp2_with fail
  refine (HE.out _).mono ?_
  rintro e w2 ⟨rfl, b2⟩
  have B2 := hid (B1.out.tr b2)
  clear b2 hrow hhas
  go_wp2
  go_ret
  exact ⟨ret_str (by rw [HT.out]; simp only [bytes_app]), B2.out⟩

/-- The dots of a cart's entries. -/
def Pc.cartTo (p : Pc) (c : Int) : Nat → Pc
  | 0 => Pc.empty
  | k + 1 => (p.cartTo c k).join (p.dotsOf c (k : Int))

def CartRel (b me n : Nat) (p : Pc) (c : Int) (w : World) (k : Nat) (wr : World) : Prop :=
  wr.heap[b]? = some (.cells (repArr me n p xt) 69) ∧ wr.heap[w.heap.size]? = some (.cells Tryz.zeroCells65 65) ∧ wr.heap[w.heap.size + 1]? = some (.cells (p.cartTo c k).arr 65) ∧ Blw w wr

theorem CartRel.start {b me n : Nat} {p : Pc} (c : Int) {w : World} (h : w.heap[b]? = some (.cells (repArr me n p xt) 69)) : CartRel (xt := xt) b me n p c w 0 ((w.alloc (.cells Tryz.zeroCells65 65)).alloc (.cells Tryz.zeroCells65 65)) := by
  refine ⟨hp_old _ (by have := lt_of_blk h; simp; omega) (hp_old _ (lt_of_blk h) h), hp_old _ (by simp) (hp_new _ _), ?_, ((Blw.rfl _).al _).al _⟩
  have := hp_new (w.alloc (.cells Tryz.zeroCells65 65)) (.cells Tryz.zeroCells65 65)
  rw [show (p.cartTo c 0).arr = Tryz.zeroCells65 from zero63.symm]
  simpa using this

set_option maxRecDepth 100000 in
set_option maxHeartbeats 1000000 in
theorem dotsOfCart_any (b me n : Nat) (p : Pc) (c : Int) (w : World) (h : w.heap[b]? = some (.cells (repArr me n p xt) 69)) :
    Calls Tryz.prog 97 #[.pointer (some ⟨b, 0, none⟩), .int .i64 c] w fun e w' => e = .returned (.agg (p.cartTo c 4).arr) ∧ Blw w w' := by
  have H := hid (CartRel.start c h)
  have hbw := lt_of_blk h
  clear h
  go_enter Tryz.func97, Tryz.ntmps97
  go_wp2
  go_loopw [6] (fun i wr => ∃ k : Nat, k ≤ 4 ∧ i = .int .i64 k ∧ CartRel (xt := xt) b me n p c w k wr) (fun i _ => 4 - (intOf i).toNat)
  case atStart => exact ⟨0, by omega, rfl, H.out⟩
  case round =>
    obtain ⟨k, hk, rfl, hR⟩ := hrel
    have HR := hid hR
    by_cases hlt : k < 4
    · have HD := hid (fun wx => dotsOf_any p c (k : Int) wx)
      have HJ := hid (fun wx => join_any (p.cartTo c k) (p.dotsOf c (k : Int)) wx)
      have hrow := rowOf_rep hR.1
      have hhas := Has_rep hR.1
      clear hR
      go_wp2_with fail
      refine (HD.out _).mono ?_
      rintro e w1 ⟨rfl, b1⟩
      have g0 := b1.bk' HR.out.1
      have g1 := b1.bk' HR.out.2.1
      have g2 := b1.bk' HR.out.2.2.1
      have s2 := lt_of_blk g2
      have hb3 : Blw w (putRowAt (w1.alloc (.cells Tryz.zeroCells65 65)) w1.heap.size 0 (.agg (p.dotsOf c (k : Int)).arr)) := put_blw ((HR.out.2.2.2.tr b1).al _) _ _ (HR.out.2.2.2.tr b1).sz
      have k0 : (putRowAt (w1.alloc (.cells Tryz.zeroCells65 65)) w1.heap.size 0 (.agg (p.dotsOf c (k : Int)).arr)).heap[b]? = some (.cells (repArr me n p xt) 69) := by rw [put_ne (Nat.ne_of_lt (lt_of_blk g0))]; exact hp_old _ (lt_of_blk g0) g0
      have k1 : (putRowAt (w1.alloc (.cells Tryz.zeroCells65 65)) w1.heap.size 0 (.agg (p.dotsOf c (k : Int)).arr)).heap[w.heap.size]? = some (.cells Tryz.zeroCells65 65) := by rw [put_ne (Nat.ne_of_lt (lt_of_blk g1))]; exact hp_old _ (lt_of_blk g1) g1
      have k2 : (putRowAt (w1.alloc (.cells Tryz.zeroCells65 65)) w1.heap.size 0 (.agg (p.dotsOf c (k : Int)).arr)).heap[w.heap.size + 1]? = some (.cells (p.cartTo c k).arr 65) := by rw [put_ne (Nat.ne_of_lt s2)]; exact hp_old _ s2 g2
      have r2 := rowOf_pc k2
      have h2 := Has_pc k2
      have r3 := rowOf_pc (put_new (w := w1) (q := p.dotsOf c (k : Int)))
      have h3 := Has_pc (put_new (w := w1) (q := p.dotsOf c (k : Int)))
      have KK := hid (And.intro k0 (And.intro k1 (And.intro k2 hb3)))
      clear hrow hhas g0 g1 g2 s2 hb3 k0 k1 k2 b1
      go_wp2_with fail
      refine (HJ.out _).mono ?_
      rintro e w4 ⟨rfl, b4⟩
      have m0 := b4.bk' KK.out.1
      have m1 := b4.bk' KK.out.2.1
      have m2 := b4.bk' KK.out.2.2.1
      have m3 := KK.out.2.2.2.tr b4
      have hW := HasW_pc m2
      have Hn := hid (show CartRel (xt := xt) b me n p c w (k + 1) (putRowAt w4 (w.heap.size + 1) 0 (.agg ((p.cartTo c k).join (p.dotsOf c (k : Int))).arr)) from
        ⟨by rw [put_ne (by omega)]; exact m0, by rw [put_ne (by omega)]; exact m1, put_pc m2 (by rw [Pc.size]), put_blw m3 _ _ (by omega)⟩)
      clear m0 m1 m2 m3 b4 r2 h2 r3 h3
      go_wp2
      go_roundw
      case rel => exact ⟨k + 1, by omega, by go_num, Hn.out⟩
      case measure => simp [intOf]; omega
    · have hk4 : k = 4 := by omega
      subst hk4
      have r2 := rowOf_pc hR.2.2.1
      have h2 := Has_pc hR.2.2.1
      have hW := HasW_of hR.2.1 zle63
      have hz := put_pc (q := p.cartTo c 4) hR.2.1 zsize63
      clear hR
      go_wp2
      exact bodyPost_ret (results_cell_row rfl _ _ w.heap.size 65 (p.cartTo c 4).arr (0, 0) _ (by rfl) hz Tryz.underlying65 rfl (by rw [size63, Pc.size])) rfl ⟨rfl, put_blw HR.out.2.2.2 _ _ (Nat.le_refl _)⟩
end Go.Proofs.YtalaldfgjgpacaaGreatDoor
