import Derived.Test.YtalaldfgjgpacaaGreatDoorGH
import Derived.Test.YtalaldfgjgpacaaGreatDoorHB
namespace Go.Proofs.YtalaldfgjgpacaaGreatDoor
set_option linter.unusedVariables false
set_option linter.unusedSimpArgs false
open Go.RowKit
attribute [local go_sem ↓] Go.wp_at_zero Go.wp_at_succ

set_option maxRecDepth 100000 in
set_option maxHeartbeats 1000000 in
theorem rvalue_any (l : Bs) (w : World) (hl : l.length ≤ 9) (hd : ∀ j, j < l.length → isDigB (l.getD j 0) = true) :
    Calls Tryz.prog 86 #[.string ⟨l.toArray⟩] w fun e w' => e = .returned (.int .i64 ((numTo l l.length : Nat) : Int)) ∧ w' = w := by
  obtain ⟨s, hs⟩ : ∃ s : ByteArray, s = ⟨l.toArray⟩ := ⟨_, rfl⟩
  have hsz : s.size = l.length := by rw [hs, bs_size]
  have HB : Hid (∀ k (hk : k < s.size), s[k]'hk = l.getD k 0) := by
    show ∀ k (hk : k < s.size), s[k]'hk = l.getD k 0
    subst hs; exact byte_at l
  have HZ := hid hsz
  have HD := hid hd
  have HNB := hid (fun k (hk : k ≤ l.length) => numTo_bd l k (fun j hj => hd j (by omega)))
  have hl' : s.size ≤ 9 := by omega
  obtain ⟨nn, hnn⟩ : ∃ nn : Nat, nn = numTo l l.length := ⟨_, rfl⟩
  rw [← hnn, ← hs]
  have HNN := hid hnn
  clear hs hsz hl hnn hd
  go_enter Tryz.func86, Tryz.ntmps86
  go_wp2
  go_loop [3, 4] (fun n i => ∃ k m : Nat, k ≤ s.size ∧ i = .int .i64 k ∧ n = .int .i64 m ∧ Hid (m = numTo l k)) (fun _ i => s.size - (intOf i).toNat)
  case atStart => exact ⟨0, 0, by omega, rfl, rfl, rfl⟩
  case round =>
    obtain ⟨k, m, hk, rfl, rfl, HM⟩ := hrel
    by_cases hlt : k < s.size
    · have HE := hid (HB.out k hlt)
      have hdk := (isDigB_iff _).1 (HD.out k (by have := HZ.out; omega))
      rw [← HE.out] at hdk
      have hmb : m < 1000000000 := by
        have h1 := HNB.out k (by have := HZ.out; omega)
        have h2 : 10 ^ k ≤ 10 ^ 9 := Nat.pow_le_pow_right (by omega) (by omega)
        have h3 := HM.out
        have h4 : (10 : Nat) ^ 9 = 1000000000 := by decide
        omega
      have HS : Hid (numTo l (k + 1) = m * 10 + ((s[k]'hlt).toNat - 48)) := by show _ = _; rw [numTo, ← HE.out, ← HM.out]
      obtain ⟨h48, h57⟩ := hdk
      go_wp2
      go_round
      case rel => exact ⟨k + 1, m * 10 + ((s[k]'hlt).toNat - 48), by omega, by go_num, by go_num, HS.out.symm⟩
      case measure => simp [intOf]; omega
    · have hkn : k = s.size := by omega
      have HF : Hid (nn = m) := by show _ = _; rw [HNN.out, HM.out, hkn, HZ.out]
      subst hkn
      go_wp2
      go_ret
      exact ⟨by rw [HF.out]; rfl, rfl⟩
end Go.Proofs.YtalaldfgjgpacaaGreatDoor
