import Derived.Test.YtkeanpabacfdlaaGreatDoorProg
import Derived.Test.YtkeanpabacfdlaaGreatDoorQ0
import Derived.KernelRfl
namespace Go.Proofs.YtkeanpabacfdlaaGreatDoor
set_option linter.unusedVariables false
set_option linter.unusedSimpArgs false
open Go.RowKit

theorem infoS : (Tryz.prog.info? 9).map (fun i => (i.zero, i.size, i.bytes)) = some (some (.string ⟨#[]⟩), 1, 16) := by kernel_rfl

def hasTo (L : List Bs) (s : Bs) : Nat → Bool
  | 0 => false
  | k + 1 => hasTo L s k || (L.getD k [] == s)

theorem hasTo_eq (L : List Bs) (s : Bs) : ∀ k, k ≤ L.length → hasTo L s k = hasL (L.take k) s := by
  intro k
  induction k with
  | zero => intro _; simp [hasTo, hasL]
  | succ k ih =>
    intro hk
    rw [hasTo, ih (by omega), list_app_idx L k [] (by omega)]
    simp only [hasL, List.contains_append]
    congr 1
    rw [Bool.eq_iff_iff]
    simp [List.contains_cons]
    exact eq_comm

theorem hasTo_all (L : List Bs) (s : Bs) : hasTo L s L.length = hasL L s := by rw [hasTo_eq L s _ (Nat.le_refl _), List.take_length]

theorem hasTo_hit (L : List Bs) (s : Bs) (k : Nat) (hk : k < L.length) (h : (L.getD k [] == s) = true) : hasL L s = true := by
  rw [hasL_iff]
  have : L.getD k [] = s := by simpa using h
  rw [← this, List.getD_eq_getElem?_getD, List.getElem?_eq_getElem hk]
  exact List.getElem_mem hk

set_option maxHeartbeats 400000 in
theorem has_any (L : List Bs) (s : Bs) (v : Value) (a : Nat) (w : World) (h : Ls w a v L) (hl : L.length ≤ 100000) :
    Calls Tryz.prog 122 #[v, strV s] w fun e w' => e = .returned (.bool (hasL L s)) ∧ w' = w := by
  obtain ⟨ao, cap, rfl, hop⟩ := h.op
  obtain ⟨t, ht⟩ : ∃ t, t = hasL L s := ⟨_, rfl⟩
  rw [← ht]
  have HT := hid ht
  have HO := hid hop
  have HH := hid (hasTo_hit L s)
  have HA := hid (hasTo_all L s)
  clear ht h hop
  unfold strV
  go_enter Tryz.func122, Tryz.ntmps122
  go_wp2
  go_loop [5] (fun i => ∃ k : Nat, k ≤ L.length ∧ i = .int .i64 k ∧ hasTo L s k = false) (fun i => L.length - (intOf i).toNat)
  case atStart => exact ⟨0, by omega, rfl, rfl⟩
  case round =>
    obtain ⟨k, hk, rfl, hd⟩ := hrel
    have HD := hid hd
    clear hd
    by_cases hlt : k < L.length
    · obtain ⟨g, rfl, hg, hc⟩ := HO.out (by omega)
      have hck := hc k hlt
      unfold strV at hck
      have HS : Hid (hasTo L s (k + 1) = (hasTo L s k || (L.getD k [] == s))) := rfl
      have HHk := hid (HH.out k hlt)
      clear hc
      generalize L.getD k [] = x at *
      cases hb : (x == s)
      · have HB := hid hb
        go_wp2
        go_round
        case rel => exact ⟨k + 1, by omega, by go_num, by rw [HS.out, HD.out, HB.out]; rfl⟩
        case measure => simp [intOf]; omega
      · have HB := hid hb
        go_wp2
        go_ret
        exact ⟨by rw [HT.out, HHk.out HB.out]; rfl, rfl⟩
    · have hkn : k = L.length := by omega
      have HF : Hid (t = false) := by
        show t = false
        rw [HT.out, ← HA.out, ← hkn]; exact HD.out
      subst hkn
      go_wp2
      go_ret
      exact ⟨by rw [HF.out]; rfl, rfl⟩
end Go.Proofs.YtkeanpabacfdlaaGreatDoor
