import Derived.Test.YtkeanpabacfdlaaGreatDoorProg
import Derived.Test.YtkeanpabacfdlaaGreatDoorM
namespace Go.Proofs.YtkeanpabacfdlaaGreatDoor
set_option linter.unusedVariables false
set_option linter.unusedSimpArgs false
open Go.RowKit

set_option maxHeartbeats 400000 in
theorem count_any (p : Pc) (r : Int) (w : World) :
    Calls Tryz.prog 113 #[.agg p.arr, .int .i64 r] w fun e w' => e = .returned (.int .i64 (p.count r)) ∧ Blw w w' := by
  obtain ⟨n, hn⟩ : ∃ n, n = p.count r := ⟨_, rfl⟩
  rw [← hn]
  by_cases h0 : r < 0
  · have hn0 : n = 0 := by rw [hn, Pc.count, if_neg (by omega)]
    subst hn0; clear hn
    go_enter Tryz.func113, Tryz.ntmps113
    go_wp2
    go_ret
    exact ⟨rfl, (Blw.rfl _).al _⟩
  · by_cases h3 : 3 ≤ r
    · have hn0 : n = 0 := by rw [hn, Pc.count, if_neg (by omega)]
      subst hn0; clear hn
      go_enter Tryz.func113, Tryz.ntmps113
      go_wp2
      go_ret
      exact ⟨rfl, (Blw.rfl _).al _⟩
    · have hr0 : 0 ≤ r := by omega
      have hr3 : r < 3 := by omega
      obtain ⟨kn, hkn⟩ : ∃ kn : Nat → Bool, kn = fun i => (p r.toNat i).known := ⟨_, rfl⟩
      have hn9 : n = cnt kn 9 := by rw [hn, Pc.count, if_pos ⟨hr0, hr3⟩, hkn]
      subst hn9; clear hn h0 h3
      have hc : ∀ i : Nat, i < 9 → p.arr[r.toNat * 45 + i * 5]? = some (.bool (kn i)) := fun i hi => by
        have := Pc.atRIK p r.toNat i 0 (by omega) hi (by omega)
        rw [hkn]; simpa [Sl.cell] using this
      clear hkn
      generalize p.arr = cs at *
      go_enter Tryz.func113, Tryz.ntmps113
      go_wp2
      go_loop [5, 6] (fun n i => ∃ k : Nat, k ≤ 9 ∧ i = .int .i64 k ∧ n = .int .i64 (cnt kn k)) (fun _ i => 9 - (intOf i).toNat)
      case atStart => exact ⟨0, Nat.zero_le _, rfl, rfl⟩
      case round =>
        obtain ⟨k, hk, rfl, rfl⟩ := hrel
        have hle := cnt_le kn k
        by_cases hlt : k < 9
        · have hck := hc k hlt
          have HS : Hid (cnt kn (k + 1) = cnt kn k + if kn k then 1 else 0) := rfl
          clear hc
          cases hb : kn k
          · rw [hb] at hck
            go_wp2
            go_round
            case rel => exact ⟨k + 1, by omega, by go_num, by rw [HS.out, hb]; simp⟩
            case measure => simp [intOf]; omega
          · rw [hb] at hck
            go_wp2
            go_round
            case rel => exact ⟨k + 1, by omega, by go_num, by rw [HS.out, hb]; go_num⟩
            case measure => simp [intOf]; omega
        · have h9 : k = 9 := by omega
          subst h9
          go_wp2
          go_ret
          exact ⟨rfl, (Blw.rfl _).al _⟩
end Go.Proofs.YtkeanpabacfdlaaGreatDoor
