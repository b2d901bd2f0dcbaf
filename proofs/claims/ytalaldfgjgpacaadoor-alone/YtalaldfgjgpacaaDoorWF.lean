import Derived.Test.YtalaldfgjgpacaaDoorWE
namespace Go.Proofs.YtalaldfgjgpacaaDoor
set_option linter.unusedVariables false
set_option linter.unusedSimpArgs false
open Go.RowKit

theorem ok_empty : Pc.empty.ok := fun r i _ _ h => by cases h
theorem ok_dotsOf (p : Pc) (c it : Int) : (p.dotsOf c it).ok := fun r i _ _ h => by
  unfold Pc.dotsOf at h
  split at h <;> cases h
theorem joinSl_or (a b : Sl) : joinSl a b = a ∨ joinSl a b = b ∨ joinSl a b = ⟨true, false, 0, 0, 0⟩ := by
  unfold joinSl
  cases a.known
  · exact .inr (.inl rfl)
  · simp only [if_true]
    split
    · exact .inl rfl
    · exact .inr (.inr rfl)
theorem ok_join {p q : Pc} (hp : p.ok) (hq : q.ok) : (p.join q).ok := by
  intro r i hr hi h
  unfold Pc.join at h ⊢
  rcases joinSl_or (p r i) (q r i) with e | e | e
  · rw [e] at h ⊢; exact hp r i hr hi h
  · rw [e] at h ⊢; exact hq r i hr hi h
  · rw [e] at h; cases h
theorem ok_put {p : Pc} (hp : p.ok) (k m : Nat) {c it v : Int} (hc0 : 0 ≤ c) (hc1 : c < 3) (hi0 : 0 ≤ it) (hi1 : it < 4) (hv0 : -99 ≤ v) (hv1 : v ≤ 99) : (p.put k m ⟨true, true, c, it, v⟩).ok := by
  intro r i hr hi h
  unfold Pc.put at h ⊢
  by_cases e : r = k ∧ i = m
  · simp only [e, and_self, if_true] at h ⊢; exact ⟨trivial, hc0, hc1, hi0, hi1, hv0, hv1⟩
  · rw [if_neg e] at h ⊢; exact hp r i hr hi h
theorem ok_putk {p : Pc} (hp : p.ok) (k m : Nat) : (p.put k m { p k m with known := true }).ok := by
  intro r i hr hi h
  unfold Pc.put at h ⊢
  by_cases e : r = k ∧ i = m
  · obtain ⟨rfl, rfl⟩ := e
    simp only [and_self, if_true] at h ⊢
    have := hp r i hr hi h
    exact ⟨trivial, this.2⟩
  · rw [if_neg e] at h ⊢; exact hp r i hr hi h
theorem ok_cartTo (p : Pc) (c : Int) (k : Nat) : (p.cartTo c k).ok := by
  induction k with
  | zero => exact ok_empty
  | succ k ih => exact ok_join ih (ok_dotsOf p c _)

end Go.Proofs.YtalaldfgjgpacaaDoor
