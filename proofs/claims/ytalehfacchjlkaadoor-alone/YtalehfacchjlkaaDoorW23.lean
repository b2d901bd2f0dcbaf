import Derived.Test.YtalehfacchjlkaaDoorW22
namespace Go.Proofs.YtalehfacchjlkaaDoor
set_option linter.unusedVariables false
set_option linter.unusedSimpArgs false
open Go.RowKit

set_option maxRecDepth 100000 in
theorem small_empty (a : Option Addr) (cap : Nat) (w : World) : Calls Tryd.prog 5 #[.slice a 0 cap] w fun e w' => (e = .returned (.bool true) ∨ e = .returned (.bool false)) ∧ w' = w := by
  go_enter Tryd.func5, Tryd.ntmps5
  go_wp2
  refine wp_loop_once ?_
  go_wp2
  go_ret
  exact ⟨.inl rfl, rfl⟩

set_option maxRecDepth 100000 in
set_option maxHeartbeats 2000000 in
theorem strict_no (v : Value) (me n : Int) (w : World) (hsm : ∀ wx, Blw w wx → Calls Tryd.prog 5 #[v] wx fun e w' => (e = .returned (.bool true) ∨ e = .returned (.bool false)) ∧ w' = wx) (hno : newOk me n = false) :
    Calls Tryd.prog 4 #[v, .int .i64 me, .int .i64 n] w fun e w' => e = .returned (.bool true) ∧ Blw w w' := by
  have HST := hid (stands_any w)
  have HSM := hid hsm
  have HNW := hid (fun wx => new_no me n wx hno)
  have hpn : ∀ wx : World, (binOp .eql 24 (.pointer none) (.pointer none)).run Tryd.prog wx = .ok (.bool true) wx := fun _ => by kernel_rfl
  clear hsm hno
  go_enter Tryd.func4, Tryd.ntmps4
  go_wp2_with fail
  refine HST.out.mono ?_
  rintro e w1 ⟨rfl, b1⟩
  have B1 := hid b1
  clear b1
  go_wp2_with fail
  refine (HSM.out _ B1.out).mono ?_
  rintro e w2 ⟨he, hw2⟩
  subst w2
  rcases he with rfl | rfl
  · go_wp2_with fail
    refine (HNW.out _).mono ?_
    rintro e w3 ⟨rfl, hw3⟩
    subst w3
    go_wp2
    go_ret
    exact ⟨rfl, B1.out⟩
  · go_wp2_with fail
    refine (HNW.out _).mono ?_
    rintro e w3 ⟨rfl, hw3⟩
    subst w3
    go_wp2
    go_ret
    exact ⟨rfl, B1.out⟩

set_option maxRecDepth 100000 in
set_option maxHeartbeats 2000000 in
theorem strict_empty (a : Option Addr) (cap me n : Nat) (w : World) (hn : n ≤ 3) (hme : me < n) :
    Calls Tryd.prog 4 #[.slice a 0 cap, .int .i64 me, .int .i64 n] w fun e w' => e = .returned (.bool true) ∧ Blw w w' := by
  have HST := hid (stands_any w)
  have HSM := hid (fun wx => small_empty a cap wx)
  have HNW := hid (fun wx => new_yes me n wx hn hme)
  go_enter Tryd.func4, Tryd.ntmps4
  go_wp2_with fail
  refine HST.out.mono ?_
  rintro e w1 ⟨rfl, b1⟩
  have B1 := hid b1
  clear b1
  go_wp2_with fail
  refine (HSM.out _).mono ?_
  rintro e w2 ⟨he, hw2⟩
  subst w2
  rcases he with rfl | rfl
  · go_wp2_with fail
    refine (HNW.out _).mono ?_
    rintro e w3 ⟨rfl, hw3⟩
    subst w3
    go_wp2_with fail
    refine wp_loop_once ?_
    go_wp2
    go_ret
    exact ⟨rfl, (((B1.out.al _).al _).al _).al _⟩
  · go_wp2_with fail
    refine (HNW.out _).mono ?_
    rintro e w3 ⟨rfl, hw3⟩
    subst w3
    go_wp2
    go_ret
    exact ⟨rfl, B1.out.al _⟩
end Go.Proofs.YtalehfacchjlkaaDoor
