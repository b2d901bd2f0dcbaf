import Derived.Test.YtalaldfgjgpacaaGreatDoorTC
import Derived.BigQuiet
namespace Go.Proofs.YtalaldfgjgpacaaGreatDoor
set_option linter.unusedVariables false
set_option linter.unusedSimpArgs false
open Go.RowKit
attribute [local go_sem ↓] Go.wp_at_zero Go.wp_at_succ

set_option maxRecDepth 100000 in
set_option maxHeartbeats 2000000 in
theorem rwho_any (cb me n : Nat) (a b : Value) (had : Nat) (lt ac : Value) (dk : Bs) (c1 c2 : UInt8) (w : World) (h1 : isRepB c1 = true) (h2 : isRepB c2 = true) (h : w.heap[cb]? = some (.cells (refArr me n a b had lt ac dk) 123)) :
    Calls Tryz.prog 109 #[.pointer (some ⟨cb, 0, none⟩), .int .u8 c1.toNat, .int .u8 c2.toNat] w fun e w' => e = .returned (.bool (forMe me n (c1.toNat - 48) (c2.toNat - 48))) ∧ w' = w := by
  obtain ⟨a1, a2⟩ := (isRepB_iff _).1 h1
  obtain ⟨a3, a4⟩ := (isRepB_iff _).1 h2
  have q0 := (ref_n h).1
  have q1 := (ref_n h).2.1
  obtain ⟨r, hr⟩ : ∃ r, r = forMe me n (c1.toNat - 48) (c2.toNat - 48) := ⟨_, rfl⟩
  rw [← hr]
  obtain ⟨f, hf⟩ : ∃ f, c1.toNat = f + 48 := ⟨c1.toNat - 48, by omega⟩
  obtain ⟨t, ht⟩ : ∃ t, c2.toNat = t + 48 := ⟨c2.toNat - 48, by omega⟩
  rw [hf, ht] at hr
  rw [show f + 48 - 48 = f by omega, show t + 48 - 48 = t by omega] at hr
  rw [hf] at a1 a2
  rw [ht] at a3 a4
  rw [hf, ht]
  have HR := hid hr
  have w1 : IntKind.u8.wrap (((f + 48 : Nat) : Int) - 48) = (f : Int) := by rw [IntKind.wrap_u8]; omega
  have w2 : IntKind.u8.wrap (((t + 48 : Nat) : Int) - 48) = (t : Int) := by rw [IntKind.wrap_u8]; omega
  clear h h1 h2 hr hf ht
  by_cases h1 : t = me
  · have g1 : ((t : Int) == (me : Int)) = true := by rw [beq_iff_eq]; omega
    by_cases h2 : f = me
    · have g2 : ((f : Int) == (me : Int)) = true := by rw [beq_iff_eq]; omega
      have g2' : ((f : Int) != (me : Int)) = false := by rw [bne, g2]; rfl
      have HT : Hid (r = false) := by show _ = _; rw [HR.out]; simp [forMe, h2]
      clear h1 h2
      go_enter Tryz.func109, Tryz.ntmps109
      go_wp2
      go_ret
      exact ⟨by rw [HT.out]; rfl, rfl⟩
    · have g2 : ((f : Int) == (me : Int)) = false := by rw [beq_eq_false_iff_ne]; omega
      have g2' : ((f : Int) != (me : Int)) = true := by rw [bne, g2]; rfl
      by_cases h3 : f < n
      · have g3 : decide ((f : Int) < (n : Int)) = true := by rw [decide_eq_true_eq]; omega
        have HT : Hid (r = true) := by show _ = _; rw [HR.out]; simp [forMe, h1, h2, h3]
        clear h1 h2
        go_enter Tryz.func109, Tryz.ntmps109
        go_wp2
        go_ret
        exact ⟨by rw [HT.out]; rfl, rfl⟩
      · have g3 : decide ((f : Int) < (n : Int)) = false := by rw [decide_eq_false_iff_not]; omega
        have HT : Hid (r = false) := by show _ = _; rw [HR.out]; simp [forMe, h1, h2, h3]
        clear h1 h2
        go_enter Tryz.func109, Tryz.ntmps109
        go_wp2
        go_ret
        exact ⟨by rw [HT.out]; rfl, rfl⟩
  · have g1 : ((t : Int) == (me : Int)) = false := by rw [beq_eq_false_iff_ne]; omega
    have HT : Hid (r = false) := by show _ = _; rw [HR.out]; simp [forMe, h1]
    clear h1
    go_enter Tryz.func109, Tryz.ntmps109
    go_wp2
    go_ret
    exact ⟨by rw [HT.out]; rfl, rfl⟩
end Go.Proofs.YtalaldfgjgpacaaGreatDoor
