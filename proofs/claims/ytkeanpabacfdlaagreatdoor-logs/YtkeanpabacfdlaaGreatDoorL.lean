import Derived.Test.YtkeanpabacfdlaaGreatDoorM

namespace Go.Proofs.YtkeanpabacfdlaaGreatDoor
set_option linter.unusedVariables false
set_option linter.unusedSimpArgs false

/-- Texts, as lists of bytes. -/
abbrev Bs : Type := List UInt8

def Srt (l : List Bs) : Prop := l.Pairwise (· < ·)

/-- The list with s in its place. -/
def withL : List Bs → Bs → List Bs
  | [], s => [s]
  | x :: l, s => if s < x then s :: x :: l else x :: withL l s

theorem lt_irr (x : Bs) : ¬ x < x := List.lt_irrefl x
theorem lt_tr {x y z : Bs} (h : x < y) (k : y < z) : x < z := List.lt_trans h k
theorem lt_tri {x y : Bs} (h : ¬ x < y) (k : ¬ y < x) : x = y := List.le_antisymm (by simpa using k) (by simpa using h)

theorem mem_withL (l : List Bs) (s x : Bs) : x ∈ withL l s ↔ x = s ∨ x ∈ l := by
  induction l with
  | nil => simp [withL]
  | cons y l ih =>
    unfold withL
    split
    · simp
    · simp only [List.mem_cons, ih]
      constructor
      · rintro (h | h | h)
        · exact .inr (.inl h)
        · exact .inl h
        · exact .inr (.inr h)
      · rintro (h | h | h)
        · exact .inr (.inl h)
        · exact .inl h
        · exact .inr (.inr h)

theorem srt_withL {l : List Bs} {s : Bs} (h : Srt l) (hs : s ∉ l) : Srt (withL l s) := by
  induction l with
  | nil => simp [withL, Srt]
  | cons y l ih =>
    unfold Srt at h ih ⊢
    rw [List.pairwise_cons] at h
    unfold withL
    split
    · rename_i hlt
      refine List.pairwise_cons.2 ⟨?_, List.pairwise_cons.2 h⟩
      intro a ha
      rcases List.mem_cons.1 ha with rfl | ha
      · exact hlt
      · exact lt_tr hlt (h.1 a ha)
    · rename_i hlt
      refine List.pairwise_cons.2 ⟨?_, ih h.2 (fun hm => hs (List.mem_cons_of_mem _ hm))⟩
      intro a ha
      rcases (mem_withL l s a).1 ha with rfl | ha
      · rcases Classical.em (y < a) with h1 | h1
        · exact h1
        · exact absurd (lt_tri h1 hlt) (fun e => hs (by rw [e]; exact List.mem_cons_self))
      · exact h.1 a ha

theorem withL_len (l : List Bs) (s : Bs) : (withL l s).length = l.length + 1 := by
  induction l with
  | nil => rfl
  | cons y l ih =>
    unfold withL
    split
    · simp
    · simp [ih]

theorem srt_ext {a b : List Bs} (ha : Srt a) (hb : Srt b) (h : ∀ x, x ∈ a ↔ x ∈ b) : a = b := by
  induction a generalizing b with
  | nil =>
    cases b with
    | nil => rfl
    | cons y b => exact absurd ((h y).2 List.mem_cons_self) (by simp)
  | cons x a ih =>
    cases b with
    | nil => exact absurd ((h x).1 List.mem_cons_self) (by simp)
    | cons y b =>
      unfold Srt at ha hb
      rw [List.pairwise_cons] at ha hb
      have hxy : x = y := by
        rcases List.mem_cons.1 ((h x).1 List.mem_cons_self) with e | e
        · exact e
        · rcases List.mem_cons.1 ((h y).2 List.mem_cons_self) with e' | e'
          · exact e'.symm
          · exact absurd (lt_tr (hb.1 x e) (ha.1 y e')) (lt_irr _)
      subst hxy
      congr 1
      refine ih ha.2 hb.2 fun z => ?_
      constructor
      · intro hz
        rcases List.mem_cons.1 ((h z).1 (List.mem_cons_of_mem _ hz)) with e | e
        · subst e; exact absurd (ha.1 z hz) (lt_irr _)
        · exact e
      · intro hz
        rcases List.mem_cons.1 ((h z).2 (List.mem_cons_of_mem _ hz)) with e | e
        · subst e; exact absurd (hb.1 z hz) (lt_irr _)
        · exact e

theorem srt_nodup {a : List Bs} (ha : Srt a) : a.Nodup := by
  unfold Srt at ha
  exact ha.imp (fun {x y} h e => by subst e; exact lt_irr _ h)

theorem srt_app {a b : List Bs} (ha : Srt a) (hb : Srt b) (h : ∀ x ∈ a, ∀ y ∈ b, x < y) : Srt (a ++ b) :=
  List.pairwise_append.2 ⟨ha, hb, h⟩

def hasL (l : List Bs) (s : Bs) : Bool := l.contains s

theorem hasL_iff (l : List Bs) (s : Bs) : hasL l s = true ↔ s ∈ l := by simp [hasL]
theorem hasL_not (l : List Bs) (s : Bs) : hasL l s = false ↔ s ∉ l := by simp [hasL]

/-- All of l that c takes, put in one behind the other, under f. -/
def insAll (f : Bs → Bs) (c : Bs → Bool) (out l : List Bs) : List Bs := l.foldl (fun o e => if c e then withL o (f e) else o) out

theorem insAll_nil (f : Bs → Bs) (c : Bs → Bool) (out : List Bs) : insAll f c out [] = out := rfl
theorem insAll_cons (f : Bs → Bs) (c : Bs → Bool) (out : List Bs) (e : Bs) (l : List Bs) : insAll f c out (e :: l) = insAll f c (if c e then withL out (f e) else out) l := rfl
theorem insAll_app (f : Bs → Bs) (c : Bs → Bool) (out a b : List Bs) : insAll f c out (a ++ b) = insAll f c (insAll f c out a) b := by simp [insAll, List.foldl_append]

theorem insAll_len (f : Bs → Bs) (c : Bs → Bool) (l : List Bs) : ∀ out, (insAll f c out l).length ≤ out.length + l.length := by
  induction l with
  | nil => intro out; simp [insAll_nil]
  | cons e l ih =>
    intro out
    rw [insAll_cons]
    have := ih (if c e then withL out (f e) else out)
    split at this
    · rename_i h
      rw [withL_len] at this
      rw [if_pos h]
      simp; omega
    · rename_i h
      rw [if_neg h]
      simp; omega

theorem mem_insAll (f : Bs → Bs) (c : Bs → Bool) (l : List Bs) : ∀ out x, x ∈ insAll f c out l ↔ x ∈ out ∨ ∃ e ∈ l, c e = true ∧ x = f e := by
  induction l with
  | nil => intro out x; simp [insAll_nil]
  | cons e l ih =>
    intro out x
    rw [insAll_cons, ih]
    cases hc : c e with
    | false => simp [hc]
    | true =>
      simp only [if_true, mem_withL, List.mem_cons, exists_eq_or_imp, hc, true_and]
      constructor
      · rintro ((h | h) | h)
        · exact .inr (.inl h)
        · exact .inl h
        · exact .inr (.inr h)
      · rintro (h | h | h)
        · exact .inl (.inr h)
        · exact .inl (.inl h)
        · exact .inr h

theorem srt_insAll (f : Bs → Bs) (c : Bs → Bool) (l : List Bs) : ∀ out, Srt out → (∀ e ∈ l, c e = true → f e ∉ out) → l.Pairwise (fun a b => c a = true → c b = true → f a ≠ f b) → Srt (insAll f c out l) := by
  induction l with
  | nil => intro out h _ _; exact h
  | cons e l ih =>
    intro out h hn hp
    rw [List.pairwise_cons] at hp
    rw [insAll_cons]
    cases hc : c e with
    | false =>
      simp only [Bool.false_eq_true, if_false]
      exact ih _ h (fun a ha => hn a (List.mem_cons_of_mem _ ha)) hp.2
    | true =>
      simp only [if_true]
      refine ih _ (srt_withL h (hn e List.mem_cons_self hc)) (fun a ha hca hm => ?_) hp.2
      rcases (mem_withL _ _ _).1 hm with e' | e'
      · exact hp.1 a ha hc hca e'.symm
      · exact hn a (List.mem_cons_of_mem _ ha) hca e'

/-- A dot of an entry. -/
def dotOf (e : Bs) : Bs := (e.drop 2).take 2

def joinD (D D' : List Bs) : List Bs := insAll id (fun d => !hasL D d) D D'
def joinE (D E D' E' : List Bs) : List Bs :=
  insAll id (fun e => !hasL D (dotOf e)) (insAll id (fun e => hasL E' e || !hasL D' (dotOf e)) [] E) E'

def flatL (l : List Bs) : Bs := l.flatten

end Go.Proofs.YtkeanpabacfdlaaGreatDoor
