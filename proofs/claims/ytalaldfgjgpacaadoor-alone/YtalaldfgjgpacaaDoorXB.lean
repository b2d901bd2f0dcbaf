import Derived.Test.YtalaldfgjgpacaaDoorWF
namespace Go.Proofs.YtalaldfgjgpacaaDoor
set_option linter.unusedVariables false
set_option linter.unusedSimpArgs false
open Go.RowKit

theorem sumTo_ev (p q : Pc) (c it : Int) (cnt : Nat) (e : Int) (kill : Bool)
    (h1 : ∀ j, j < 27 → j ≠ cnt → (if (q.nth j).isOf c it then (q.nth j).value else 0) = if kill then 0 else (if (p.nth j).isOf c it then (p.nth j).value else 0))
    (h2 : (if (q.nth cnt).isOf c it then (q.nth cnt).value else 0) = e) (h3 : (p.nth cnt).isOf c it = false) :
    ∀ n, n ≤ 27 → q.sumTo c it n = (if kill then 0 else p.sumTo c it n) + (if cnt < n then e else 0) := by
  intro n
  induction n with
  | zero => intro _; simp [Pc.sumTo]
  | succ n ih =>
    intro hn
    have ih' := ih (by omega)
    simp only [Pc.sumTo]
    rw [ih']
    by_cases hc : n = cnt
    · subst hc
      have a1 : ¬ n < n := by omega
      have a2 : n < n + 1 := by omega
      rw [h2, h3, if_neg a1, if_pos a2]
      cases kill <;> simp
    · rw [h1 n (by omega) hc]
      by_cases hl : cnt < n
      · have a2 : cnt < n + 1 := by omega
        rw [if_pos hl, if_pos a2]
        cases kill
        · simp only [Bool.false_eq_true, if_false]; omega
        · simp
      · have a2 : ¬ cnt < n + 1 := by omega
        rw [if_neg hl, if_neg a2]
        cases kill <;> simp

theorem anyTo_ev (p q : Pc) (c it : Int) (cnt : Nat) (e : Bool) (kill : Bool)
    (h1 : ∀ j, j < 27 → j ≠ cnt → (q.nth j).isOf c it = if kill then false else (p.nth j).isOf c it)
    (h2 : (q.nth cnt).isOf c it = e) (h3 : (p.nth cnt).isOf c it = false) :
    ∀ n, n ≤ 27 → q.anyTo c it n = ((if kill then false else p.anyTo c it n) || (if cnt < n then e else false)) := by
  intro n
  induction n with
  | zero => intro _; cases kill <;> simp [Pc.anyTo]
  | succ n ih =>
    intro hn
    have ih' := ih (by omega)
    simp only [Pc.anyTo]
    rw [ih']
    by_cases hc : n = cnt
    · subst hc
      have a1 : ¬ n < n := by omega
      have a2 : n < n + 1 := by omega
      rw [h2, h3, if_neg a1, if_pos a2]
      cases kill <;> simp
    · rw [h1 n (by omega) hc]
      by_cases hl : cnt < n
      · have a2 : cnt < n + 1 := by omega
        rw [if_pos hl, if_pos a2]
        cases kill
        · simp only [Bool.false_eq_true, if_false]
          generalize p.anyTo c it n = x
          generalize (p.nth n).isOf c it = y
          cases x <;> cases y <;> cases e <;> rfl
        · simp
      · have a2 : ¬ cnt < n + 1 := by omega
        rw [if_neg hl, if_neg a2]
        cases kill <;> simp

/-- One replica by itself, behind cnt events. -/
def Solo (p : Pc) (cnt : Nat) : Prop := p.ok ∧ cnt ≤ 9 ∧ (∀ r i, r < 3 → i < 9 → (p r i).known = decide (r = 0 ∧ i < cnt)) ∧ (∀ r i, r < 3 → i < 9 → (p r i).known = false → p r i = Sl.zero)

theorem cnt_pre (f : Nat → Bool) (m : Nat) : ∀ n, (∀ i, i < n → f i = decide (i < m)) → cnt f n = min n m := by
  intro n
  induction n with
  | zero => intro _; simp [cnt]
  | succ n ih =>
    intro h
    rw [cnt, ih (fun i hi => h i (by omega)), h n (by omega)]
    by_cases hm : n < m
    · simp [hm]; omega
    · simp [hm]; omega

theorem Solo.count {p : Pc} {c : Nat} (h : Solo p c) : p.count 0 = c := by
  obtain ⟨_, h9, hk, _⟩ := h
  have : p.count 0 = cnt (fun i => (p 0 i).known) 9 := rfl
  rw [this, cnt_pre _ c 9 (fun i hi => by rw [hk 0 i (by omega) hi]; simp)]
  omega

/-- An event's piece, slot by slot. -/
theorem solo_ev {p t : Pc} {c : Nat} {E : Sl} {T : Sl → Bool} (h : Solo p c) (hc : c < 9) (hE : E.known = true) (hEok : E.filled = true → 0 ≤ E.cart ∧ E.cart < 3 ∧ 0 ≤ E.item ∧ E.item < 4 ∧ -99 ≤ E.value ∧ E.value ≤ 99)
    (ht : ∀ r i, r < 3 → i < 9 → t r i = if T (p r i) then Sl.dot else Sl.zero) (hT : ∀ s, T s = true → s.filled = true) (hTd : T Sl.dot = false) :
    Solo (p.join (t.put 0 c E)) (c + 1) ∧ (∀ j, j < 27 → (p.join (t.put 0 c E)).nth j = if j = c then E else if T (p.nth j) then Sl.dot else p.nth j) := by
  obtain ⟨hok, h9, hk, hz⟩ := h
  have slot : ∀ r i, r < 3 → i < 9 → (p.join (t.put 0 c E)) r i = if r = 0 ∧ i = c then E else if T (p r i) then Sl.dot else p r i := by
    intro r i hr hi
    unfold Pc.join Pc.put
    by_cases e : r = 0 ∧ i = c
    · obtain ⟨rfl, rfl⟩ := e
      simp only [and_self, if_true]
      have : (p 0 i).known = false := by rw [hk 0 i (by omega) hi]; simp
      unfold joinSl; rw [this]; rfl
    · rw [if_neg e, if_neg e, ht r i hr hi]
      cases hTs : T (p r i)
      · cases hkn : (p r i).known
        · have := hz r i hr hi hkn
          unfold joinSl; rw [hkn, this]; rfl
        · unfold joinSl; rw [hkn]; rfl
      · have hf := hT _ hTs
        have hkn := (hok r i hr hi hf).1
        have hs : Sl.same (p r i) Sl.dot = false := by unfold Sl.same Sl.dot; rw [hf]; simp
        unfold joinSl
        simp only [if_true]
        rw [hkn, hs]
        simp [Sl.dot]
  refine ⟨⟨?_, by omega, ?_, ?_⟩, ?_⟩
  · intro r i hr hi hf
    rw [slot r i hr hi] at hf ⊢
    by_cases e : r = 0 ∧ i = c
    · rw [if_pos e] at hf ⊢; exact ⟨hE, hEok hf⟩
    · rw [if_neg e] at hf ⊢
      cases hTs : T (p r i)
      · rw [hTs] at hf; simp at hf ⊢; exact hok r i hr hi hf
      · rw [hTs] at hf; simp [Sl.dot] at hf
  · intro r i hr hi
    rw [slot r i hr hi]
    by_cases e : r = 0 ∧ i = c
    · rw [if_pos e, hE]; simp; omega
    · rw [if_neg e]
      cases hTs : T (p r i)
      · simp only [Bool.false_eq_true, if_false]; rw [hk r i hr hi, decide_eq_decide]; omega
      · simp only [if_true]
        have := (hok r i hr hi (hT _ hTs)).1
        rw [hk r i hr hi] at this
        simp at this
        simp [Sl.dot]; omega
  · intro r i hr hi
    rw [slot r i hr hi]
    by_cases e : r = 0 ∧ i = c
    · rw [if_pos e, hE]; intro h; cases h
    · rw [if_neg e]
      cases hTs : T (p r i)
      · simp only [Bool.false_eq_true, if_false]; exact hz r i hr hi
      · simp only [if_true]; intro h; cases h
  · intro j hj
    have e1 : j / 9 < 3 := by omega
    have e2 : j % 9 < 9 := by omega
    have := slot (j / 9) (j % 9) e1 e2
    unfold Pc.nth
    rw [this]
    by_cases e : j = c
    · rw [if_pos e, if_pos (by omega)]
    · rw [if_neg e, if_neg (by omega)]


/-- The table tells what the piece has. -/
def TabRel (p : Pc) (th : Nat → Bool) (hv : Nat → Int) : Prop := ∀ c it : Nat, c < 3 → it < 4 → th (c * 4 + it) = p.anyTo c it 27 ∧ hv (c * 4 + it) = p.sumTo c it 27

theorem isOf_zero (c it : Int) : Sl.zero.isOf c it = false := rfl
theorem isOf_dot (c it : Int) : Sl.dot.isOf c it = false := rfl
theorem isOf_mk (c it v c' it' : Int) : (Sl.mk true true c it v).isOf c' it' = (c == c' && it == it') := rfl

theorem Solo.slot0 {p : Pc} {c : Nat} (h : Solo p c) (hc : c < 9) : p.nth c = Sl.zero := by
  have e1 : c / 9 = 0 := by omega
  have e2 : c % 9 = c := by omega
  unfold Pc.nth
  rw [e1, e2]
  refine h.2.2.2 0 c (by omega) hc ?_
  rw [h.2.2.1 0 c (by omega) hc]; simp

/-- What one event does to the table: kill: what is taken away; put: what is laid. -/
theorem tab_ev {p q : Pc} {cn : Nat} {E : Sl} {T : Sl → Bool} {th : Nat → Bool} {hv : Nat → Int} (hS : Solo p cn) (hc : cn < 9) (hR : TabRel p th hv)
    (hq : ∀ j, j < 27 → q.nth j = if j = cn then E else if T (p.nth j) then Sl.dot else p.nth j)
    (kill : Nat → Bool) (th' : Nat → Bool) (hv' : Nat → Int)
    (hk1 : ∀ (c it : Nat) (s : Sl), c < 3 → it < 4 → kill (c * 4 + it) = true → s.isOf c it = true → T s = true)
    (hk0 : ∀ (c it : Nat) (s : Sl), c < 3 → it < 4 → kill (c * 4 + it) = false → s.isOf c it = true → T s = false)
    (ht : ∀ c it : Nat, c < 3 → it < 4 → th' (c * 4 + it) = ((if kill (c * 4 + it) then false else th (c * 4 + it)) || E.isOf c it))
    (hh : ∀ c it : Nat, c < 3 → it < 4 → hv' (c * 4 + it) = (if kill (c * 4 + it) then 0 else hv (c * 4 + it)) + (if E.isOf c it then E.value else 0)) :
    TabRel q th' hv' := by
  intro c it h3 h4
  obtain ⟨r1, r2⟩ := hR c it h3 h4
  have hz := hS.slot0 hc
  have hcn : q.nth cn = E := by rw [hq cn (by omega), if_pos rfl]
  have h27 : cn < 27 := by omega
  have hslot : ∀ j, j < 27 → j ≠ cn → (q.nth j).isOf c it = (if kill (c * 4 + it) then false else (p.nth j).isOf c it) ∧ (if (q.nth j).isOf c it then (q.nth j).value else 0) = (if kill (c * 4 + it) then 0 else (if (p.nth j).isOf c it then (p.nth j).value else 0)) := by
    intro j hj hne
    rw [hq j hj, if_neg hne]
    cases ho : (p.nth j).isOf c it
    · cases hT : T (p.nth j)
      · simp [ho]
      · simp [isOf_dot]
    · cases hkk : kill (c * 4 + it)
      · have := hk0 c it _ h3 h4 hkk ho
        rw [this]; simp [ho]
      · have := hk1 c it _ h3 h4 hkk ho
        rw [this]; simp [isOf_dot]
  refine ⟨?_, ?_⟩
  · rw [ht c it h3 h4, r1, anyTo_ev p q c it cn (E.isOf c it) (kill (c * 4 + it)) (fun j hj hne => (hslot j hj hne).1) (by rw [hcn]) (by rw [hz]; rfl) 27 (by omega), if_pos h27]
  · rw [hh c it h3 h4, r2, sumTo_ev p q c it cn (if E.isOf c it then E.value else 0) (kill (c * 4 + it)) (fun j hj hne => (hslot j hj hne).2) (by rw [hcn]) (by rw [hz]; rfl) 27 (by omega), if_pos h27]

theorem cast_beq (a b : Nat) : ((a : Int) == (b : Int)) = (a == b) := by
  rw [Bool.eq_iff_iff]; simp; omega

theorem at_eq {c it c' it' : Nat} (h4 : it < 4) (h4' : it' < 4) : (c' * 4 + it' = c * 4 + it) ↔ (c = c' ∧ it = it') := by omega

/-- Add. -/
theorem ev_add {p : Pc} {cn : Nat} {th : Nat → Bool} {hv : Nat → Int} (hS : Solo p cn) (hc : cn < 9) (hR : TabRel p th hv) (c it : Nat) (v : Int) (h3 : c < 3) (h4 : it < 4) (hv0 : -99 ≤ v) (hv1 : v ≤ 99) :
    Solo (p.join (Pc.empty.put 0 cn ⟨true, true, c, it, v⟩)) (cn + 1) ∧ TabRel (p.join (Pc.empty.put 0 cn ⟨true, true, c, it, v⟩)) (fun k => if k = c * 4 + it then true else th k) (fun k => if k = c * 4 + it then hv k + v else hv k) := by
  obtain ⟨s1, s2⟩ := solo_ev (T := fun _ => false) (E := ⟨true, true, c, it, v⟩) (t := Pc.empty) hS hc rfl (fun _ => ⟨by simp only []; omega, by simp only []; omega, by simp only []; omega, by simp only []; omega, hv0, hv1⟩) (fun r i _ _ => rfl) (fun s h => by cases h) rfl
  refine ⟨s1, tab_ev hS hc hR s2 (fun _ => false) _ _ (fun _ _ _ _ _ h _ => by cases h) (fun _ _ _ _ _ _ _ => rfl) ?_ ?_⟩
  · intro c' it' h3' h4'
    rw [isOf_mk, cast_beq, cast_beq]
    by_cases e : c' * 4 + it' = c * 4 + it
    · rw [if_pos e]; obtain ⟨rfl, rfl⟩ := (at_eq h4 h4').1 e; simp
    · rw [if_neg e]
      have : (c == c' && it == it') = false := by
        rw [Bool.eq_false_iff]; intro h; simp at h; exact e ((at_eq h4 h4').2 h)
      rw [this]; simp
  · intro c' it' h3' h4'
    rw [isOf_mk, cast_beq, cast_beq]
    by_cases e : c' * 4 + it' = c * 4 + it
    · rw [if_pos e]; obtain ⟨rfl, rfl⟩ := (at_eq h4 h4').1 e; simp
    · rw [if_neg e]
      have : (c == c' && it == it') = false := by
        rw [Bool.eq_false_iff]; intro h; simp at h; exact e ((at_eq h4 h4').2 h)
      rw [this]; simp

theorem isOf_same {s : Sl} {c it c' it' : Nat} (h : s.isOf c it = true) (h' : s.isOf c' it' = true) : c = c' ∧ it = it' := by
  simp only [Sl.isOf, Bool.and_eq_true, beq_iff_eq] at h h'
  omega

/-- Set. -/
theorem ev_set {p : Pc} {cn : Nat} {th : Nat → Bool} {hv : Nat → Int} (hS : Solo p cn) (hc : cn < 9) (hR : TabRel p th hv) (c it : Nat) (v : Int) (h3 : c < 3) (h4 : it < 4) (hv0 : -99 ≤ v) (hv1 : v ≤ 99) :
    Solo (p.join ((p.dotsOf c it).put 0 cn ⟨true, true, c, it, v⟩)) (cn + 1) ∧ TabRel (p.join ((p.dotsOf c it).put 0 cn ⟨true, true, c, it, v⟩)) (fun k => if k = c * 4 + it then true else th k) (fun k => if k = c * 4 + it then v else hv k) := by
  obtain ⟨s1, s2⟩ := solo_ev (T := fun s => s.isOf c it) (E := ⟨true, true, c, it, v⟩) (t := p.dotsOf c it) hS hc rfl (fun _ => ⟨by simp only []; omega, by simp only []; omega, by simp only []; omega, by simp only []; omega, hv0, hv1⟩) (fun r i _ _ => rfl) (fun s h => by simp only [Sl.isOf, Bool.and_eq_true] at h; exact h.1) rfl
  refine ⟨s1, tab_ev hS hc hR s2 (fun k => k == c * 4 + it) _ _ (fun c' it' s _ h4' hk hs => by
      simp only [beq_iff_eq] at hk; obtain ⟨rfl, rfl⟩ := (at_eq h4 h4').1 hk; exact hs) (fun c' it' s _ h4' hk hs => by
      rw [Bool.eq_false_iff]; intro h; obtain ⟨rfl, rfl⟩ := isOf_same h hs; simp at hk) ?_ ?_⟩
  · intro c' it' h3' h4'
    rw [isOf_mk, cast_beq, cast_beq]
    by_cases e : c' * 4 + it' = c * 4 + it
    · rw [if_pos e]; obtain ⟨rfl, rfl⟩ := (at_eq h4 h4').1 e; simp
    · rw [if_neg e]
      have : (c == c' && it == it') = false := by
        rw [Bool.eq_false_iff]; intro h; simp at h; exact e ((at_eq h4 h4').2 h)
      rw [this]; simp [e]
  · intro c' it' h3' h4'
    rw [isOf_mk, cast_beq, cast_beq]
    by_cases e : c' * 4 + it' = c * 4 + it
    · rw [if_pos e]; obtain ⟨rfl, rfl⟩ := (at_eq h4 h4').1 e; simp
    · rw [if_neg e]
      have : (c == c' && it == it') = false := by
        rw [Bool.eq_false_iff]; intro h; simp at h; exact e ((at_eq h4 h4').2 h)
      rw [this]; simp [e]

theorem dots_cn {p t : Pc} {cn : Nat} {T : Sl → Bool} (hS : Solo p cn) (hc : cn < 9) (ht : ∀ r i, r < 3 → i < 9 → t r i = if T (p r i) then Sl.dot else Sl.zero) (hT : T Sl.zero = false) : ({ t 0 cn with known := true } : Sl) = Sl.dot := by
  have hz := hS.2.2.2 0 cn (by omega) hc (by rw [hS.2.2.1 0 cn (by omega) hc]; simp)
  rw [ht 0 cn (by omega) hc, hz, hT]; rfl

/-- Remove. -/
theorem ev_remove {p : Pc} {cn : Nat} {th : Nat → Bool} {hv : Nat → Int} (hS : Solo p cn) (hc : cn < 9) (hR : TabRel p th hv) (c it : Nat) (h3 : c < 3) (h4 : it < 4) :
    Solo (p.join ((p.dotsOf c it).put 0 cn { (p.dotsOf c it) 0 cn with known := true })) (cn + 1) ∧ TabRel (p.join ((p.dotsOf c it).put 0 cn { (p.dotsOf c it) 0 cn with known := true })) (fun k => if k = c * 4 + it then false else th k) (fun k => if k = c * 4 + it then 0 else hv k) := by
  have ht : ∀ r i, r < 3 → i < 9 → (p.dotsOf c it) r i = if (p r i).isOf c it then Sl.dot else Sl.zero := fun r i _ _ => rfl
  rw [dots_cn (T := fun s => s.isOf c it) hS hc ht rfl]
  obtain ⟨s1, s2⟩ := solo_ev (T := fun s => s.isOf c it) (E := Sl.dot) (t := p.dotsOf c it) hS hc rfl (fun h => by cases h) ht (fun s h => by simp only [Sl.isOf, Bool.and_eq_true] at h; exact h.1) rfl
  refine ⟨s1, tab_ev hS hc hR s2 (fun k => k == c * 4 + it) _ _ (fun c' it' s _ h4' hk hs => by
      simp only [beq_iff_eq] at hk; obtain ⟨rfl, rfl⟩ := (at_eq h4 h4').1 hk; exact hs) (fun c' it' s _ h4' hk hs => by
      rw [Bool.eq_false_iff]; intro h; obtain ⟨rfl, rfl⟩ := isOf_same h hs; simp at hk) ?_ ?_⟩
  · intro c' it' h3' h4'
    rw [isOf_dot]
    by_cases e : c' * 4 + it' = c * 4 + it <;> simp [e]
  · intro c' it' h3' h4'
    rw [isOf_dot]
    by_cases e : c' * 4 + it' = c * 4 + it <;> simp [e]

def ofCart (c : Int) (s : Sl) : Bool := s.filled && s.cart == c

theorem join_dots (a : Sl) (b : Sl) (ha : a = Sl.dot ∨ a = Sl.zero) (hb : b = Sl.dot ∨ b = Sl.zero) : joinSl a b = if a.known || b.known then Sl.dot else Sl.zero := by
  rcases ha with rfl | rfl <;> rcases hb with rfl | rfl <;> rfl

theorem cart_slot (p : Pc) (hp : p.ok) (c : Nat) : ∀ r i, r < 3 → i < 9 → (p.cartTo c 4) r i = if ofCart c (p r i) then Sl.dot else Sl.zero := by
  intro r i hr hi
  have hd : ∀ it : Int, (p.dotsOf c it) r i = Sl.dot ∨ (p.dotsOf c it) r i = Sl.zero := by
    intro it
    by_cases h : (p r i).isOf c it = true
    · exact .inl (by unfold Pc.dotsOf; rw [if_pos h])
    · exact .inr (by unfold Pc.dotsOf; rw [if_neg h])
  have step : ∀ k : Nat, ((p.cartTo c k) r i = Sl.dot ∨ (p.cartTo c k) r i = Sl.zero) ∧ ((p.cartTo c k) r i).known = decide (∃ it : Nat, it < k ∧ (p r i).isOf c it = true) := by
    intro k
    induction k with
    | zero => exact ⟨.inr rfl, by simp [Pc.cartTo, Pc.empty, Sl.zero]⟩
    | succ k ih =>
      have e : (p.cartTo c (k + 1)) r i = joinSl ((p.cartTo c k) r i) ((p.dotsOf c (k : Int)) r i) := rfl
      rw [e, join_dots _ _ ih.1 (hd k), ih.2]
      have ek : ((p.dotsOf c (k : Int)) r i).known = (p r i).isOf c k := by unfold Pc.dotsOf; cases (p r i).isOf c (k : Int) <;> rfl
      rw [ek]
      by_cases h1 : ∃ it : Nat, it < k ∧ (p r i).isOf c it = true
      · obtain ⟨it, h2, h5⟩ := h1
        have h6 : ∃ it : Nat, it < k ∧ (p r i).isOf c it = true := ⟨it, h2, h5⟩
        have h7 : ∃ it : Nat, it < k + 1 ∧ (p r i).isOf c it = true := ⟨it, by omega, h5⟩
        simp only [h6, h7, decide_true, Bool.true_or, if_true]; exact ⟨.inl trivial, rfl⟩
      · cases h5 : (p r i).isOf c k
        · have h7 : ¬ ∃ it : Nat, it < k + 1 ∧ (p r i).isOf c it = true := fun ⟨it, h2, h8⟩ => by
            by_cases e2 : it = k
            · subst e2; rw [h5] at h8; cases h8
            · exact h1 ⟨it, by omega, h8⟩
          simp only [h1, h7, decide_false, Bool.false_or, Bool.false_eq_true, if_false]; exact ⟨.inr trivial, rfl⟩
        · have h7 : ∃ it : Nat, it < k + 1 ∧ (p r i).isOf c it = true := ⟨k, by omega, h5⟩
          simp only [h1, h7, decide_false, decide_true, Bool.false_or, if_true]; exact ⟨.inl trivial, rfl⟩
  obtain ⟨h1, h2⟩ := step 4
  have h3 : (decide (∃ it : Nat, it < 4 ∧ (p r i).isOf c it = true)) = ofCart c (p r i) := by
    rw [Bool.eq_iff_iff, decide_eq_true_eq]
    constructor
    · rintro ⟨it, _, h⟩
      simp only [Sl.isOf, Bool.and_eq_true, beq_iff_eq] at h
      simp only [ofCart, Bool.and_eq_true, beq_iff_eq]; exact ⟨h.1, h.2.1⟩
    · intro h
      simp only [ofCart, Bool.and_eq_true, beq_iff_eq] at h
      have := hp r i hr hi h.1
      refine ⟨(p r i).item.toNat, by omega, ?_⟩
      simp only [Sl.isOf, Bool.and_eq_true, beq_iff_eq]
      exact ⟨h.1, h.2, by omega⟩
  rw [h3] at h2
  rcases h1 with e | e
  · rw [e] at h2 ⊢; rw [← h2]; rfl
  · rw [e] at h2 ⊢; rw [← h2]; rfl

/-- Clear. -/
theorem ev_clear {p : Pc} {cn : Nat} {th : Nat → Bool} {hv : Nat → Int} (hS : Solo p cn) (hc : cn < 9) (hR : TabRel p th hv) (c : Nat) (h3 : c < 3) :
    Solo (p.join ((p.cartTo c 4).put 0 cn { (p.cartTo c 4) 0 cn with known := true })) (cn + 1) ∧ TabRel (p.join ((p.cartTo c 4).put 0 cn { (p.cartTo c 4) 0 cn with known := true })) (fun k => if k / 4 = c then false else th k) (fun k => if k / 4 = c then 0 else hv k) := by
  have ht := cart_slot p hS.1 c
  rw [dots_cn (T := fun s => ofCart c s) hS hc ht rfl]
  obtain ⟨s1, s2⟩ := solo_ev (T := fun s => ofCart c s) (E := Sl.dot) (t := p.cartTo c 4) hS hc rfl (fun h => by cases h) ht (fun s h => by simp only [ofCart, Bool.and_eq_true] at h; exact h.1) rfl
  have e : ∀ c' it' : Nat, it' < 4 → (c' * 4 + it') / 4 = c' := fun c' it' h => by omega
  refine ⟨s1, tab_ev hS hc hR s2 (fun k => k / 4 == c) _ _ (fun c' it' s _ h4' hk hs => by
      rw [e c' it' h4', beq_iff_eq] at hk; subst hk
      simp only [Sl.isOf, Bool.and_eq_true, beq_iff_eq] at hs; simp only [ofCart, Bool.and_eq_true, beq_iff_eq]; exact ⟨hs.1, hs.2.1⟩) (fun c' it' s _ h4' hk hs => by
      rw [e c' it' h4'] at hk
      rw [Bool.eq_false_iff]; intro h
      simp only [Sl.isOf, Bool.and_eq_true, beq_iff_eq] at hs
      simp only [ofCart, Bool.and_eq_true, beq_iff_eq] at h
      have : c' = c := by omega
      simp [this] at hk) ?_ ?_⟩
  · intro c' it' h3' h4'
    rw [isOf_dot, e c' it' h4']
    by_cases e1 : c' = c <;> simp [e1]
  · intro c' it' h3' h4'
    rw [isOf_dot, e c' it' h4']
    by_cases e1 : c' = c <;> simp [e1]

theorem solo_start : Solo Pc.empty 0 ∧ TabRel Pc.empty (fun _ => false) (fun _ => 0) := by
  refine ⟨⟨ok_empty, by omega, fun r i _ _ => by simp [Pc.empty, Sl.zero], fun r i _ _ _ => rfl⟩, fun c it _ _ => ?_⟩
  have h1 : ∀ n, Pc.empty.anyTo (c : Int) (it : Int) n = false := by
    intro n; induction n with
    | zero => rfl
    | succ n ih => rw [Pc.anyTo, ih]; rfl
  have h2 : ∀ n, Pc.empty.sumTo (c : Int) (it : Int) n = 0 := by
    intro n; induction n with
    | zero => rfl
    | succ n ih => rw [Pc.sumTo, ih]; rfl
  exact ⟨(h1 27).symm, (h2 27).symm⟩
end Go.Proofs.YtalaldfgjgpacaaDoor
