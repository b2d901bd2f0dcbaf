import Derived.Test.YtkeanpabacfdlaaGreatDoorL3
namespace Go.Proofs.YtkeanpabacfdlaaGreatDoor
set_option linter.unusedVariables false
set_option linter.unusedSimpArgs false

def Pc.noHole (p : Pc) : Prop := ∀ r i, r < 3 → i + 1 < 9 → (p r (i + 1)).known = true → (p r i).known = true

theorem cnt_full (kn : Nat → Bool) (n : Nat) (h : ∀ i, i < n → kn i = true) : cnt kn n = n := by
  induction n with
  | zero => rfl
  | succ n ih => rw [cnt, ih (fun i hi => h i (by omega)), h n (by omega)]; simp

theorem nohole_cnt (kn : Nat → Bool) (N : Nat) (h : ∀ i, i + 1 < N → kn (i + 1) = true → kn i = true) : ∀ n, n ≤ N → ∀ i, i < n → kn i = decide (i < cnt kn n) := by
  have down : ∀ j i, j < N → kn j = true → i ≤ j → kn i = true := by
    intro j
    induction j with
    | zero => intro i _ hk hi; have : i = 0 := by omega
              subst this; exact hk
    | succ j ih =>
      intro i hj hk hi
      by_cases e : i = j + 1
      · subst e; exact hk
      · exact ih i (by omega) (h j hj hk) (by omega)
  intro n
  induction n with
  | zero => intro _ i hi; omega
  | succ n ih =>
    intro hn i hi
    rw [cnt]
    cases hk : kn n with
    | true =>
      rw [cnt_full kn n (fun j hj => down n j (by omega) hk (by omega))]
      rw [down n i (by omega) hk (by omega)]
      simp; omega
    | false =>
      simp only [Bool.false_eq_true, if_false, Nat.add_zero]
      by_cases e : i = n
      · subst e; rw [hk]; have := cnt_le kn i; simp; omega
      · exact ih (by omega) i (by omega)

theorem Pc.noHole.at {p : Pc} (h : p.noHole) {r i : Nat} (hr : r < 3) (hi : i < 9) : (p r i).known = decide (i < p.count (r : Int)) := by
  have := nohole_cnt (fun i => (p r i).known) 9 (fun i hi => h r i hr hi) 9 (by omega) i hi
  rw [Pc.count, if_pos (by omega)]
  simpa using this

theorem noHole_empty : Pc.empty.noHole := by intro r i _ _ h; simp [Pc.empty, Sl.zero] at h
theorem fine_empty : Pc.empty.fine := ⟨fun r i _ _ h => by simp [Pc.empty, Sl.zero] at h, fun r i _ _ _ => by simp [Pc.empty, Sl.zero]⟩

/-- The delta of an event: what it takes away, and its own slot. -/
theorem rel_delta {p : Pc} {D E : List Bs} (h : RelP p D E) (hp : p.fine) (me k : Nat) (hme : me < 3) (hk : k < 9) (hnk : (p me k).known = false) (T : Sl → Bool) (hT : ∀ s, T s = true → s.filled = true)
    (T' : Bs → Bool) (hTT : ∀ r i, r < 3 → i < 9 → (p r i).filled = true → T' ((p r i).text r (i + 1)) = T (p r i)) (q : Pc) (hq : ∀ r i, r < 3 → i < 9 → q r i = if T (p r i) then Sl.dot else Sl.zero)
    (s : Sl) (hs : s.known = true) (hg : s.filled = true → s.good) (hc : s.filled = false → s.cart = 0 ∧ s.item = 0 ∧ s.value = 0) :
    RelP (q.put me k s) (insAll dotOf T' [dotT me k] E) (if s.filled then [s.text me (k + 1)] else []) ∧ (q.put me k s).fine ∧
      (p.noHole → k = p.count (me : Int) → (p.join (q.put me k s)).noHole) := by
  have hqk : ∀ r i, r < 3 → i < 9 → (q r i).known = T (p r i) ∧ (q r i).filled = false := by
    intro r i hr hi
    rw [hq r i hr hi]
    cases T (p r i) <;> simp [Sl.dot, Sl.zero]
  have hTk : ∀ r i, r < 3 → i < 9 → T (p r i) = true → (p r i).known = true := fun r i hr hi ht => (hp.ok r i hr hi (hT _ ht)).1
  refine ⟨⟨?_, ?_, ?_, ?_⟩, ⟨?_, ?_⟩, ?_⟩
  · refine srt_insAll _ _ _ _ (by simp [Srt]) ?_ ?_
    · intro e he hce hm
      obtain ⟨r, i, hr, hi, hf, rfl⟩ := (h.me _).1 he
      rw [text_dot] at hm
      obtain ⟨rfl, rfl⟩ := dotT_inj (List.mem_singleton.1 hm) hr hi hme hk
      rw [(hp.ok r i hr hi hf).1] at hnk; cases hnk
    · exact (h.ents_dots hp.ok).imp (fun {a b} hab _ _ => hab)
  · intro x
    rw [mem_insAll]
    constructor
    · rintro (hx | ⟨e, he, hce, rfl⟩)
      · exact ⟨me, k, hme, hk, by simp [Pc.put, hs], List.mem_singleton.1 hx⟩
      · obtain ⟨r, i, hr, hi, hf, rfl⟩ := (h.me _).1 he
        rw [hTT r i hr hi hf] at hce
        refine ⟨r, i, hr, hi, ?_, rfl⟩
        unfold Pc.put
        split
        · exact hs
        · rw [(hqk r i hr hi).1]; exact hce
    · rintro ⟨r, i, hr, hi, hkn, rfl⟩
      unfold Pc.put at hkn
      split at hkn
      · rename_i e; obtain ⟨rfl, rfl⟩ := e; left; simp
      · rw [(hqk r i hr hi).1] at hkn
        right
        exact ⟨_, (h.me _).2 ⟨r, i, hr, hi, hT _ hkn, rfl⟩, by rw [hTT r i hr hi (hT _ hkn)]; exact hkn, rfl⟩
  · split <;> simp [Srt]
  · intro x
    constructor
    · intro hx
      split at hx
      · rename_i hf
        refine ⟨me, k, hme, hk, by simp [Pc.put, hf], ?_⟩
        rw [List.mem_singleton.1 hx]; simp [Pc.put]
      · simp at hx
    · rintro ⟨r, i, hr, hi, hf, rfl⟩
      unfold Pc.put at hf ⊢
      split at hf
      · rename_i e
        obtain ⟨rfl, rfl⟩ := e
        simp [hf]
      · rw [(hqk r i hr hi).2] at hf; cases hf
  · intro r i hr hi hf
    unfold Pc.put at hf ⊢
    split at hf
    · rename_i e
      simp only [e, and_self, if_true]
      obtain ⟨a, b, c, d, e', f⟩ := hg hf
      exact ⟨hs, a, b, c, d, e', f⟩
    · rw [(hqk r i hr hi).2] at hf; cases hf
  · intro r i hr hi hf
    unfold Pc.put at hf ⊢
    split at hf
    · rename_i e
      simp only [e, and_self, if_true]
      exact hc hf
    · rename_i e
      simp only [e, if_false]
      rw [hq r i hr hi]
      cases T (p r i) <;> simp [Sl.dot, Sl.zero]
  · intro hnh hkc r i hr hi
    simp only [Pc.join, joinSl_known]
    have hpi := hnh.at hr (show i < 9 by omega)
    have hpi1 := hnh.at hr hi
    have hd : ∀ j, j < 9 → ((q.put me k s) r j).known = true → (p r j).known = true ∨ (r = me ∧ j = k) := by
      intro j hj hkn
      unfold Pc.put at hkn
      split at hkn
      · rename_i e; exact .inr e
      · rw [(hqk r j hr hj).1] at hkn
        exact .inl (hTk r j hr hj hkn)
    intro hor
    have hlt : i + 1 ≤ p.count (r : Int) := by
      rcases Bool.or_eq_true_iff.1 hor with h1 | h1
      · rw [hpi1] at h1; simp at h1; omega
      · rcases hd _ hi h1 with h2 | ⟨rfl, h2⟩
        · rw [hpi1] at h2; simp at h2; omega
        · omega
    rw [hpi]; simp; left; omega

end Go.Proofs.YtkeanpabacfdlaaGreatDoor
