import Derived.Test.YtkeanpabacfdlaaGreatDoorQ11
namespace Go.Proofs.YtkeanpabacfdlaaGreatDoor
set_option linter.unusedVariables false
set_option linter.unusedSimpArgs false
open Go.RowKit
attribute [local go_sem ↓] Go.wp_at_zero Go.wp_at_succ

set_option maxRecDepth 100000 in
set_option maxHeartbeats 1000000 in
theorem radd_no (cb : Nat) (s : ByteArray) (c it v : Int) (w : World) (hno : ¬ (0 ≤ c ∧ c < 3 ∧ 0 ≤ it ∧ it < 4 ∧ -99 ≤ v ∧ v ≤ 99)) :
    Calls Tryz.prog 27 #[.pointer (some ⟨cb, 0, none⟩), .string s, .int .i64 c, .int .i64 it, .int .i64 v] w fun e w' => e = .returned (.tuple #[.string ⟨#[]⟩, .int .i64 1]) ∧ w' = w := by
  have HIC := hid (risCart_any c w)
  cases hcc : cartB3 c
  · rw [hcc] at HIC
    clear hno hcc
    go_enter Tryz.func27, Tryz.ntmps27
    go_wp2_with fail
    refine HIC.out.mono ?_
    rintro e w1 ⟨rfl, hw1⟩
    subst w1
    go_wp2
    go_ret2
    exact ⟨rfl, rfl⟩
  · rw [hcc] at HIC
    have HII := hid (risItem_any it w)
    cases hii : itemB4 it
    · rw [hii] at HII
      clear hno hcc hii
      go_enter Tryz.func27, Tryz.ntmps27
      go_wp2_with fail
      refine HIC.out.mono ?_
      rintro e w1 ⟨rfl, hw1⟩
      subst w1
      go_wp2_with fail
      refine HII.out.mono ?_
      rintro e w1 ⟨rfl, hw1⟩
      subst w1
      go_wp2
      go_ret2
      exact ⟨rfl, rfl⟩
    · rw [hii] at HII
      simp only [cartB3, itemB4, Bool.and_eq_true, decide_eq_true_eq] at hcc hii
      by_cases h1 : v < -99
      · have d1 : decide (v < -99) = true := by simpa using h1
        clear hno hcc hii
        go_enter Tryz.func27, Tryz.ntmps27
        go_wp2_with fail
        refine HIC.out.mono ?_
        rintro e w1 ⟨rfl, hw1⟩
        subst w1
        go_wp2_with fail
        refine HII.out.mono ?_
        rintro e w1 ⟨rfl, hw1⟩
        subst w1
        go_wp2
        go_ret2
        exact ⟨rfl, rfl⟩
      · have d1 : decide (v < -99) = false := by simpa using h1
        have h2 : 99 < v := by omega
        have d2 : decide (99 < v) = true := by simpa using h2
        clear hno hcc hii
        go_enter Tryz.func27, Tryz.ntmps27
        go_wp2_with fail
        refine HIC.out.mono ?_
        rintro e w1 ⟨rfl, hw1⟩
        subst w1
        go_wp2_with fail
        refine HII.out.mono ?_
        rintro e w1 ⟨rfl, hw1⟩
        subst w1
        go_wp2
        go_ret2
        exact ⟨rfl, rfl⟩

set_option maxRecDepth 100000 in
set_option maxHeartbeats 1000000 in
theorem rset_no (cb : Nat) (s : ByteArray) (c it v : Int) (w : World) (hno : ¬ (0 ≤ c ∧ c < 3 ∧ 0 ≤ it ∧ it < 4 ∧ 0 ≤ v ∧ v ≤ 99)) :
    Calls Tryz.prog 29 #[.pointer (some ⟨cb, 0, none⟩), .string s, .int .i64 c, .int .i64 it, .int .i64 v] w fun e w' => e = .returned (.tuple #[.string ⟨#[]⟩, .int .i64 1]) ∧ w' = w := by
  have HIC := hid (risCart_any c w)
  cases hcc : cartB3 c
  · rw [hcc] at HIC
    clear hno hcc
    go_enter Tryz.func29, Tryz.ntmps29
    go_wp2_with fail
    refine HIC.out.mono ?_
    rintro e w1 ⟨rfl, hw1⟩
    subst w1
    go_wp2
    go_ret2
    exact ⟨rfl, rfl⟩
  · rw [hcc] at HIC
    have HII := hid (risItem_any it w)
    cases hii : itemB4 it
    · rw [hii] at HII
      clear hno hcc hii
      go_enter Tryz.func29, Tryz.ntmps29
      go_wp2_with fail
      refine HIC.out.mono ?_
      rintro e w1 ⟨rfl, hw1⟩
      subst w1
      go_wp2_with fail
      refine HII.out.mono ?_
      rintro e w1 ⟨rfl, hw1⟩
      subst w1
      go_wp2
      go_ret2
      exact ⟨rfl, rfl⟩
    · rw [hii] at HII
      simp only [cartB3, itemB4, Bool.and_eq_true, decide_eq_true_eq] at hcc hii
      by_cases h1 : v < 0
      · have d1 : decide (v < 0) = true := by simpa using h1
        clear hno hcc hii
        go_enter Tryz.func29, Tryz.ntmps29
        go_wp2_with fail
        refine HIC.out.mono ?_
        rintro e w1 ⟨rfl, hw1⟩
        subst w1
        go_wp2_with fail
        refine HII.out.mono ?_
        rintro e w1 ⟨rfl, hw1⟩
        subst w1
        go_wp2
        go_ret2
        exact ⟨rfl, rfl⟩
      · have d1 : decide (v < 0) = false := by simpa using h1
        have h2 : 99 < v := by omega
        have d2 : decide (99 < v) = true := by simpa using h2
        clear hno hcc hii
        go_enter Tryz.func29, Tryz.ntmps29
        go_wp2_with fail
        refine HIC.out.mono ?_
        rintro e w1 ⟨rfl, hw1⟩
        subst w1
        go_wp2_with fail
        refine HII.out.mono ?_
        rintro e w1 ⟨rfl, hw1⟩
        subst w1
        go_wp2
        go_ret2
        exact ⟨rfl, rfl⟩

set_option maxRecDepth 100000 in
set_option maxHeartbeats 1000000 in
theorem rremove_no (cb : Nat) (s : ByteArray) (c it : Int) (w : World) (hno : ¬ (0 ≤ c ∧ c < 3 ∧ 0 ≤ it ∧ it < 4)) :
    Calls Tryz.prog 31 #[.pointer (some ⟨cb, 0, none⟩), .string s, .int .i64 c, .int .i64 it] w fun e w' => e = .returned (.tuple #[.string ⟨#[]⟩, .int .i64 1]) ∧ w' = w := by
  have HIC := hid (risCart_any c w)
  cases hcc : cartB3 c
  · rw [hcc] at HIC
    clear hno hcc
    go_enter Tryz.func31, Tryz.ntmps31
    go_wp2_with fail
    refine HIC.out.mono ?_
    rintro e w1 ⟨rfl, hw1⟩
    subst w1
    go_wp2
    go_ret2
    exact ⟨rfl, rfl⟩
  · rw [hcc] at HIC
    have HII := hid (risItem_any it w)
    cases hii : itemB4 it
    · rw [hii] at HII
      clear hno hcc hii
      go_enter Tryz.func31, Tryz.ntmps31
      go_wp2_with fail
      refine HIC.out.mono ?_
      rintro e w1 ⟨rfl, hw1⟩
      subst w1
      go_wp2_with fail
      refine HII.out.mono ?_
      rintro e w1 ⟨rfl, hw1⟩
      subst w1
      go_wp2
      go_ret2
      exact ⟨rfl, rfl⟩
    · exfalso
      simp only [cartB3, itemB4, Bool.and_eq_true, decide_eq_true_eq] at hcc hii
      exact hno ⟨hcc.1, hcc.2, hii.1, hii.2⟩

set_option maxRecDepth 100000 in
set_option maxHeartbeats 1000000 in
theorem rclear_no (cb : Nat) (s : ByteArray) (c : Int) (w : World) (hno : ¬ (0 ≤ c ∧ c < 3)) :
    Calls Tryz.prog 33 #[.pointer (some ⟨cb, 0, none⟩), .string s, .int .i64 c] w fun e w' => e = .returned (.tuple #[.string ⟨#[]⟩, .int .i64 1]) ∧ w' = w := by
  have HIC := hid (risCart_any c w)
  cases hcc : cartB3 c
  · rw [hcc] at HIC
    clear hno hcc
    go_enter Tryz.func33, Tryz.ntmps33
    go_wp2_with fail
    refine HIC.out.mono ?_
    rintro e w1 ⟨rfl, hw1⟩
    subst w1
    go_wp2
    go_ret2
    exact ⟨rfl, rfl⟩
  · exfalso
    simp only [cartB3, Bool.and_eq_true, decide_eq_true_eq] at hcc
    exact hno hcc

theorem hp_new2 (w : World) (o1 o2 : Obj) : ((w.alloc o1).alloc o2).heap[w.heap.size + 1]? = some o2 := by simpa using hp_new (w.alloc o1) o2
theorem mkAck1 (w : World) : (Instr.makeSlice 76 (.int .i64 1) (.int .i64 1)).run Tryz.prog w = .ok (.slice (some ⟨w.heap.size, 0, none⟩) 1 1) (w.alloc (.cells #[.int .i64 0] 3)) := by kernel_rfl
theorem mkAck2 (w : World) : (Instr.makeSlice 76 (.int .i64 2) (.int .i64 2)).run Tryz.prog w = .ok (.slice (some ⟨w.heap.size, 0, none⟩) 2 2) (w.alloc (.cells #[.int .i64 0, .int .i64 0] 3)) := by kernel_rfl
theorem mkAck3 (w : World) : (Instr.makeSlice 76 (.int .i64 3) (.int .i64 3)).run Tryz.prog w = .ok (.slice (some ⟨w.heap.size, 0, none⟩) 3 3) (w.alloc (.cells #[.int .i64 0, .int .i64 0, .int .i64 0] 3)) := by kernel_rfl

set_option maxRecDepth 100000 in
set_option maxHeartbeats 1000000 in
theorem rnew_yes (me n : Nat) (w : World) (hn : n ≤ 3) (hm : me < n) :
    Calls Tryz.prog 22 #[.int .i64 me, .int .i64 n] w fun e w' => e = .returned (.tuple #[.pointer (some ⟨w.heap.size + 1, 0, none⟩), .int .i64 0]) ∧ RefAt w' (w.heap.size + 1) me n Pc.empty Ext.zero (.slice none 0 0) ∧ Blw w w' := by
  have h1 : decide ((n : Int) < 1) = false := by simp; omega
  have h2 : decide ((3 : Int) < (n : Int)) = false := by simp; omega
  have h3 : decide ((me : Int) < 0) = false := by rw [decide_eq_false_iff_not]; omega
  have h4 : decide ((n : Int) ≤ (me : Int)) = false := by simp; omega
  have : n = 1 ∨ n = 2 ∨ n = 3 := by omega
  rcases this with rfl | rfl | rfl
  · have hmk := mkAck1
    go_enter Tryz.func22, Tryz.ntmps22
    go_wp2
    go_ret2
    exact ⟨rfl, ⟨_, _, _, [], [], 0, [], hp_new2 w _ _, Ls.nil _ _, Ls.nil _ _, LateAt.nil _, by omega, rel_empty⟩, ((Blw.rfl _).al _).al _⟩
  · have hmk := mkAck2
    go_enter Tryz.func22, Tryz.ntmps22
    go_wp2
    go_ret2
    exact ⟨rfl, ⟨_, _, _, [], [], 0, [], hp_new2 w _ _, Ls.nil _ _, Ls.nil _ _, LateAt.nil _, by omega, rel_empty⟩, ((Blw.rfl _).al _).al _⟩
  · have hmk := mkAck3
    go_enter Tryz.func22, Tryz.ntmps22
    go_wp2
    go_ret2
    exact ⟨rfl, ⟨_, _, _, [], [], 0, [], hp_new2 w _ _, Ls.nil _ _, Ls.nil _ _, LateAt.nil _, by omega, rel_empty⟩, ((Blw.rfl _).al _).al _⟩

set_option maxRecDepth 100000 in
set_option maxHeartbeats 400000 in
theorem rnew_no (me n : Int) (w : World) (h : newOk me n = false) :
    Calls Tryz.prog 22 #[.int .i64 me, .int .i64 n] w fun e w' => e = .returned (.tuple #[.pointer none, .int .i64 1]) ∧ w' = w := by
  by_cases g1 : n < 1
  · have h1 : decide (n < 1) = true := by simpa using g1
    clear h
    go_enter Tryz.func22, Tryz.ntmps22
    go_wp2
    go_ret2
    exact ⟨rfl, rfl⟩
  · have h1 : decide (n < 1) = false := by simpa using g1
    by_cases g2 : 3 < n
    · have h2 : decide (3 < n) = true := by simpa using g2
      clear h
      go_enter Tryz.func22, Tryz.ntmps22
      go_wp2
      go_ret2
      exact ⟨rfl, rfl⟩
    · have h2 : decide (3 < n) = false := by simpa using g2
      by_cases g3 : me < 0
      · have h3 : decide (me < 0) = true := by simpa using g3
        clear h
        go_enter Tryz.func22, Tryz.ntmps22
        go_wp2
        go_ret2
        exact ⟨rfl, rfl⟩
      · have h3 : decide (me < 0) = false := by simpa using g3
        have g4 : n ≤ me := by
          simp only [newOk, Bool.and_eq_false_iff, decide_eq_false_iff_not] at h
          omega
        have h4 : decide (n ≤ me) = true := by simpa using g4
        clear h
        go_enter Tryz.func22, Tryz.ntmps22
        go_wp2
        go_ret2
        exact ⟨rfl, rfl⟩
end Go.Proofs.YtkeanpabacfdlaaGreatDoor
