import Derived.Test.YtkeanpabacfdlaaGreatDoorW10
namespace Go.Proofs.YtkeanpabacfdlaaGreatDoor
set_option linter.unusedVariables false
set_option linter.unusedSimpArgs false
open Go.RowKit
variable {xt : Ext}
attribute [local go_sem ↓] Go.wp_at_zero Go.wp_at_succ run_load63 run_store63
attribute [local go_sem] blkOf_mk offOf_mk isPt_mk isRow_pc

set_option maxRecDepth 100000 in
set_option maxHeartbeats 400000 in
theorem nextNumber_any (b me n : Nat) (p : Pc) (w : World) (h : w.heap[b]? = some (.cells (repArr me n p xt) 99)) :
    Calls Tryz.prog 103 #[.pointer (some ⟨b, 0, none⟩)] w fun e w' => e = .returned (.int .i64 ((p.count (me : Int) : Int) + 1)) ∧ Blw w w' := by
  have hbl := lt_of_blk h
  have H := hid h
  have hme := rep_me h
  have hrow := rowOf_rep h
  have hhas := Has_rep h
  have hcnt := Pc.count_le p (me : Int)
  have HC := hid (fun wx => count_any p me wx)
  generalize p.count (me : Int) = d at *
  clear h
  go_enter Tryz.func103, Tryz.ntmps103
  go_wp2
  go_region_held3 (fun w' => Has w' b 2 ∧ rowOf w' b 2 = p.arr ∧ w'.cell? ⟨b, 0, none⟩ = some (.int .i64 me)) (first | exact ⟨hh1, hr1, hm1⟩ | exact ⟨hhas, hrow, hme⟩)
    (first | (go_at_call 113; refine (HC.out _).mono ?_; rintro e w1 ⟨rfl, b1⟩; have hr1 := rowOf_rep ((b1.bk b hbl).trans H.out); have hh1 := Has_rep ((b1.bk b hbl).trans H.out); have hm1 := rep_me ((b1.bk b hbl).trans H.out)))
  go_wp2
  go_ret
  exact ⟨rfl, Blw.tr (Blw.dr (Blw.rfl _)) b1⟩

/-- The world behind a draw. -/
theorem drew_blk {w : World} {b : Nat} {x : Option Obj} (h : w.heap[b]? = x) : w.drew.heap[b]? = x := h

set_option maxRecDepth 100000 in
set_option maxHeartbeats 400000 in
theorem checkEvent_any (b me n : Nat) (p : Pc) (s : ByteArray) (w : World) (hn : n ≤ 3) (hs : s.size ≤ maxLen) (h : w.heap[b]? = some (.cells (repArr me n p xt) 99)) :
    Calls Tryz.prog 102 #[.pointer (some ⟨b, 0, none⟩), .string s] w fun e w' => e = .returned (.int .i64 (evErr me n p s.data.toList)) ∧ Blw w w' := by
  have hbl := lt_of_blk h
  have H := hid h
  have HC := hid (fun wx => count_any p me wx)
  have HT := hid (checkToken_any b me n p s w hn hs h)
  have HE : Hid (evErr me n p s.data.toList = if tokErr n p s.data.toList = 0 then (if 9 ≤ p.count (me : Int) then 4 else 0) else tokErr n p s.data.toList) := rfl
  have hcnt := Pc.count_le p (me : Int)
  generalize evErr me n p s.data.toList = ee at *
  generalize tokErr n p s.data.toList = te at *
  generalize p.count (me : Int) = d at *
  clear h hs
  go_enter Tryz.func102, Tryz.ntmps102
  go_wp2_with fail
  refine HT.out.mono ?_
  rintro e w0 ⟨rfl, b0⟩
  by_cases ht : te = 0
  · have ht1 : (te != 0) = false := by simp [ht]
    have HE2 : Hid (ee = if 9 ≤ d then 4 else 0) := by show ee = _; rw [HE.out, if_pos ht]
    clear ht
    have B0 := hid b0
    have hrow := rowOf_rep ((b0.bk b hbl).trans H.out)
    have hhas := Has_rep ((b0.bk b hbl).trans H.out)
    have hme := rep_me ((b0.bk b hbl).trans H.out)
    have H2 := hid ((b0.bk b hbl).trans H.out)
    have hbl2 := lt_of_blk H2.out
    clear b0
    by_cases h9 : 9 ≤ d
    · have HE3 : Hid (ee = 4) := by show ee = _; rw [HE2.out, if_pos h9]
      go_wp2
      go_region_held3 (fun w' => Has w' b 2 ∧ rowOf w' b 2 = p.arr ∧ w'.cell? ⟨b, 0, none⟩ = some (.int .i64 me)) (first | exact ⟨hh1, hr1, hm1⟩ | exact ⟨hhas, hrow, hme⟩)
        (first | (go_at_call 113; refine (HC.out _).mono ?_; rintro e w1 ⟨rfl, b1⟩; have hr1 := rowOf_rep ((b1.bk b hbl2).trans H2.out); have hh1 := Has_rep ((b1.bk b hbl2).trans H2.out); have hm1 := rep_me ((b1.bk b hbl2).trans H2.out)))
      go_wp2
      go_ret
      exact ⟨by rw [HE3.out]; rfl, B0.out.tr (Blw.tr (Blw.dr (Blw.rfl _)) b1)⟩
    · have HE3 : Hid (ee = 0) := by show ee = _; rw [HE2.out, if_neg h9]
      go_wp2
      go_region_held3 (fun w' => Has w' b 2 ∧ rowOf w' b 2 = p.arr ∧ w'.cell? ⟨b, 0, none⟩ = some (.int .i64 me)) (first | exact ⟨hh1, hr1, hm1⟩ | exact ⟨hhas, hrow, hme⟩)
        (first | (go_at_call 113; refine (HC.out _).mono ?_; rintro e w1 ⟨rfl, b1⟩; have hr1 := rowOf_rep ((b1.bk b hbl2).trans H2.out); have hh1 := Has_rep ((b1.bk b hbl2).trans H2.out); have hm1 := rep_me ((b1.bk b hbl2).trans H2.out)))
      go_wp2
      go_ret
      exact ⟨by rw [HE3.out]; rfl, B0.out.tr (Blw.tr (Blw.dr (Blw.rfl _)) b1)⟩
  · have ht1 : (te != 0) = true := by simp [ht]
    have HE2 : Hid (ee = te) := by show ee = _; rw [HE.out, if_neg ht]
    clear ht
    go_wp2
    go_ret
    exact ⟨by rw [HE2.out]; rfl, b0⟩

end Go.Proofs.YtkeanpabacfdlaaGreatDoor
