import Derived.Test.YtkeanpabacfdlaaGreatDoorL2
namespace Go.Proofs.YtkeanpabacfdlaaGreatDoor
set_option linter.unusedVariables false
set_option linter.unusedSimpArgs false

/-- The dots of the first n slots; of some slots of one replica; their text. -/
def Pc.dlTo (p : Pc) : Nat → List Bs
  | 0 => []
  | n + 1 => p.dlTo n ++ (if (p.nth n).known then [dotT (n / 9) (n % 9)] else [])
def Pc.rowTo (p : Pc) (r : Nat) : Nat → List Bs
  | 0 => []
  | n + 1 => p.rowTo r n ++ (if (p r n).known then [dotT r n] else [])
def Pc.dtTo (p : Pc) : Nat → Bs
  | 0 => []
  | n + 1 => p.dtTo n ++ (if (p.nth n).known then dotT (n / 9) (n % 9) else [])

theorem dtTo_flat (p : Pc) (n : Nat) : (p.dlTo n).flatten = p.dtTo n := by
  induction n with
  | zero => rfl
  | succ n ih =>
    simp only [Pc.dlTo, Pc.dtTo, List.flatten_append, ih]
    split <;> simp

theorem dtTo_len (p : Pc) (n : Nat) : (p.dtTo n).length ≤ 2 * n := by
  induction n with
  | zero => simp [Pc.dtTo]
  | succ n ih =>
    simp only [Pc.dtTo, List.length_append]
    split
    · simp [dotT]; omega
    · simp; omega

theorem dtTo_succ (p : Pc) (k m : Nat) (hm : m < 9) : p.dtTo (k * 9 + (m + 1)) = p.dtTo (k * 9 + m) ++ (if (p k m).known then dotT k m else []) := by
  show p.dtTo (k * 9 + m + 1) = _
  rw [Pc.dtTo, Pc.nth_ri _ _ _ hm]
  have e1 : (k * 9 + m) / 9 = k := by omega
  have e2 : (k * 9 + m) % 9 = m := by omega
  rw [e1, e2]

theorem dlTo_row (p : Pc) (k m : Nat) (hm : m ≤ 9) : p.dlTo (k * 9 + m) = p.dlTo (k * 9) ++ p.rowTo k m := by
  induction m with
  | zero => simp [Pc.rowTo]
  | succ m ih =>
    show p.dlTo (k * 9 + m + 1) = _
    rw [Pc.dlTo, ih (by omega), Pc.rowTo, Pc.nth_ri _ _ _ (by omega)]
    have e1 : (k * 9 + m) / 9 = k := by omega
    have e2 : (k * 9 + m) % 9 = m := by omega
    rw [e1, e2, List.append_assoc]

theorem mem_dlTo (p : Pc) (n : Nat) (x : Bs) : x ∈ p.dlTo n ↔ ∃ m, m < n ∧ (p.nth m).known = true ∧ x = dotT (m / 9) (m % 9) := by
  induction n with
  | zero => simp [Pc.dlTo]
  | succ n ih =>
    rw [Pc.dlTo, List.mem_append, ih]
    constructor
    · rintro (⟨m, hm, hk, rfl⟩ | h)
      · exact ⟨m, by omega, hk, rfl⟩
      · split at h
        · rename_i hk; exact ⟨n, by omega, hk, by simpa using h⟩
        · simp at h
    · rintro ⟨m, hm, hk, rfl⟩
      by_cases e : m = n
      · subst e; right; rw [if_pos hk]; simp
      · exact .inl ⟨m, by omega, hk, rfl⟩

theorem dotT_lt {m n : Nat} (h : m < n) (hn : n < 27) : dotT (m / 9) (m % 9) < dotT (n / 9) (n % 9) := by
  unfold dotT
  rw [List.cons_lt_cons_iff]
  by_cases e : m / 9 = n / 9
  · right
    refine ⟨by rw [e], ?_⟩
    rw [List.cons_lt_cons_iff]
    left; exact dig_lt (by omega) (by omega)
  · left; exact dig_lt (by omega) (by omega)

theorem srt_dlTo (p : Pc) (n : Nat) (hn : n ≤ 27) : Srt (p.dlTo n) := by
  induction n with
  | zero => exact List.Pairwise.nil
  | succ n ih =>
    rw [Pc.dlTo]
    refine srt_app (ih (by omega)) (by split <;> simp [Srt]) ?_
    intro x hx y hy
    obtain ⟨m, hm, _, rfl⟩ := (mem_dlTo p n x).1 hx
    split at hy
    · have hy' := List.mem_singleton.1 hy
      subst hy'
      exact dotT_lt hm (by omega)
    · simp at hy

/-- The entries of an item in a cart, of the first n slots; of the first n items. -/
def Pc.elTo (p : Pc) (c it : Int) : Nat → List Bs
  | 0 => []
  | n + 1 => p.elTo c it n ++ (if (p.nth n).isOf c it then [(p.nth n).text (n / 9) (n % 9 + 1)] else [])
def Pc.elAll (p : Pc) : Nat → List Bs
  | 0 => []
  | n + 1 => p.elAll n ++ p.elTo ((n / 4 : Nat) : Int) ((n % 4 : Nat) : Int) 27

theorem textTo_flat (p : Pc) (c it : Int) (n : Nat) : (p.elTo c it n).flatten = p.textTo c it n := by
  induction n with
  | zero => rfl
  | succ n ih =>
    simp only [Pc.elTo, Pc.textTo, List.flatten_append, ih]
    split <;> simp

theorem mem_elTo (p : Pc) (c it : Int) (n : Nat) (x : Bs) : x ∈ p.elTo c it n ↔ ∃ m, m < n ∧ (p.nth m).isOf c it = true ∧ x = (p.nth m).text (m / 9) (m % 9 + 1) := by
  induction n with
  | zero => simp [Pc.elTo]
  | succ n ih =>
    rw [Pc.elTo, List.mem_append, ih]
    constructor
    · rintro (⟨m, hm, hk, rfl⟩ | h)
      · exact ⟨m, by omega, hk, rfl⟩
      · split at h
        · rename_i hk; exact ⟨n, by omega, hk, by simpa using h⟩
        · simp at h
    · rintro ⟨m, hm, hk, rfl⟩
      by_cases e : m = n
      · subst e; right; rw [if_pos hk]; simp
      · exact .inl ⟨m, by omega, hk, rfl⟩

theorem isOf_eq {s : Sl} {c it : Int} (h : s.isOf c it = true) : s.filled = true ∧ s.cart = c ∧ s.item = it := by
  simp only [Sl.isOf, Bool.and_eq_true, beq_iff_eq] at h; exact h

theorem srt_elTo (p : Pc) (c it : Int) (n : Nat) (hn : n ≤ 27) : Srt (p.elTo c it n) := by
  induction n with
  | zero => exact List.Pairwise.nil
  | succ n ih =>
    rw [Pc.elTo]
    refine srt_app (ih (by omega)) (by split <;> simp [Srt]) ?_
    intro x hx y hy
    obtain ⟨m, hm, hk, rfl⟩ := (mem_elTo p c it n x).1 hx
    split at hy
    · rename_i hk'
      have hy' := List.mem_singleton.1 hy
      subst hy'
      obtain ⟨_, c1, i1⟩ := isOf_eq hk
      obtain ⟨_, c2, i2⟩ := isOf_eq hk'
      unfold Sl.text
      rw [c1, i1, c2, i2]
      simp only [List.cons_append, List.nil_append]
      have hd := dotT_lt hm (show n < 27 by omega)
      unfold dotT at hd
      rw [List.cons_lt_cons_iff]; right; refine ⟨rfl, ?_⟩
      rw [List.cons_lt_cons_iff]; right; refine ⟨rfl, ?_⟩
      rw [List.cons_lt_cons_iff] at hd ⊢
      rcases hd with hd | ⟨hd, hd2⟩
      · exact .inl hd
      · refine .inr ⟨hd, ?_⟩
        rw [List.cons_lt_cons_iff] at hd2 ⊢
        rcases hd2 with hd2 | ⟨_, hd2⟩
        · exact .inl hd2
        · exact absurd hd2 (by simp)
    · simp at hy

theorem mem_elAll (p : Pc) (n : Nat) (x : Bs) : x ∈ p.elAll n ↔ ∃ k, k < n ∧ x ∈ p.elTo ((k / 4 : Nat) : Int) ((k % 4 : Nat) : Int) 27 := by
  induction n with
  | zero => simp [Pc.elAll]
  | succ n ih =>
    rw [Pc.elAll, List.mem_append, ih]
    constructor
    · rintro (⟨k, hk, h⟩ | h)
      · exact ⟨k, by omega, h⟩
      · exact ⟨n, by omega, h⟩
    · rintro ⟨k, hk, h⟩
      by_cases e : k = n
      · subst e; exact .inr h
      · exact .inl ⟨k, by omega, h⟩

theorem srt_elAll (p : Pc) (n : Nat) (hn : n ≤ 12) : Srt (p.elAll n) := by
  induction n with
  | zero => exact List.Pairwise.nil
  | succ n ih =>
    rw [Pc.elAll]
    refine srt_app (ih (by omega)) (srt_elTo _ _ _ _ (by omega)) ?_
    intro x hx y hy
    obtain ⟨k, hk, hx⟩ := (mem_elAll p n x).1 hx
    obtain ⟨m, hm, hi, rfl⟩ := (mem_elTo _ _ _ _ _).1 hx
    obtain ⟨m', hm', hi', rfl⟩ := (mem_elTo _ _ _ _ _).1 hy
    obtain ⟨_, c1, i1⟩ := isOf_eq hi
    obtain ⟨_, c2, i2⟩ := isOf_eq hi'
    unfold Sl.text
    rw [c1, i1, c2, i2]
    simp only [List.cons_append, List.nil_append, Int.toNat_natCast]
    rw [List.cons_lt_cons_iff]
    by_cases e : k / 4 = n / 4
    · right
      refine ⟨by rw [e], ?_⟩
      rw [List.cons_lt_cons_iff]
      left; exact itemB_lt (by omega) (by omega)
    · left; exact cartB_lt (by omega) (by omega)

/-- The lists of a piece. -/
theorem rel_lists (p : Pc) (hp : p.ok) : RelP p (p.dlTo 27) (p.elAll 12) := by
  refine ⟨srt_dlTo p 27 (by omega), ?_, srt_elAll p 12 (by omega), ?_⟩
  · intro x
    rw [mem_dlTo]
    constructor
    · rintro ⟨m, hm, hk, rfl⟩; exact ⟨m / 9, m % 9, by omega, by omega, hk, rfl⟩
    · rintro ⟨r, i, hr, hi, hk, rfl⟩
      refine ⟨r * 9 + i, by omega, by rw [Pc.nth_ri _ _ _ hi]; exact hk, ?_⟩
      have e1 : (r * 9 + i) / 9 = r := by omega
      have e2 : (r * 9 + i) % 9 = i := by omega
      rw [e1, e2]
  · intro x
    rw [mem_elAll]
    constructor
    · rintro ⟨k, hk, h⟩
      obtain ⟨m, hm, hi, rfl⟩ := (mem_elTo _ _ _ _ _).1 h
      exact ⟨m / 9, m % 9, by omega, by omega, (isOf_eq hi).1, rfl⟩
    · rintro ⟨r, i, hr, hi, hf, rfl⟩
      obtain ⟨a, b, c, d, _, _⟩ := hp.good hr hi hf
      obtain ⟨cn, hcn⟩ : ∃ cn : Nat, (p r i).cart = (cn : Int) := ⟨(p r i).cart.toNat, by omega⟩
      obtain ⟨tn, htn⟩ : ∃ tn : Nat, (p r i).item = (tn : Int) := ⟨(p r i).item.toNat, by omega⟩
      refine ⟨cn * 4 + tn, by omega, (mem_elTo _ _ _ _ _).2 ⟨r * 9 + i, by omega, ?_, ?_⟩⟩
      · rw [Pc.nth_ri _ _ _ hi]
        have e1 : (cn * 4 + tn) / 4 = cn := by omega
        have e2 : (cn * 4 + tn) % 4 = tn := by omega
        rw [e1, e2]
        simp [Sl.isOf, hf, hcn, htn]
      · rw [Pc.nth_ri _ _ _ hi]
        have e1 : (r * 9 + i) / 9 = r := by omega
        have e2 : (r * 9 + i) % 9 = i := by omega
        rw [e1, e2]

theorem RelP.eqD {p : Pc} {D E : List Bs} (h : RelP p D E) (hp : p.ok) : D = p.dlTo 27 := (h.uniq (rel_lists p hp)).1
theorem RelP.eqE {p : Pc} {D E : List Bs} (h : RelP p D E) (hp : p.ok) : E = p.elAll 12 := (h.uniq (rel_lists p hp)).2

/-- How many dots of a replica. -/
def knownL (D : List Bs) (r : Int) : Nat := D.countP (fun d => decide (((d.getD 0 0).toNat : Int) - 48 = r))

theorem known_row (p : Pc) (k : Nat) (r : Int) (hk : k < 3) (n : Nat) (hn : n ≤ 9) : knownL (p.rowTo k n) r = if r = k then cnt (fun i => (p k i).known) n else 0 := by
  induction n with
  | zero => simp [knownL, Pc.rowTo, cnt]
  | succ n ih =>
    have h1 : knownL (p.rowTo k (n + 1)) r = knownL (p.rowTo k n) r + knownL (if (p k n).known then [dotT k n] else []) r := by
      simp [knownL, Pc.rowTo, List.countP_append]
    rw [h1, ih (by omega)]
    have h2 : knownL [dotT k n] r = if r = k then 1 else 0 := by
      have : ((dig k).toNat : Int) - 48 = k := by rw [dig_toNat k (by omega)]; omega
      simp only [knownL, dotT, List.countP_cons, List.countP_nil, List.getD_cons_zero, this]
      by_cases e : r = k
      · simp [e]
      · have e' : ¬ ((k : Int) = r) := fun h => e h.symm
        simp [e, e']
    simp only [cnt]
    by_cases hkn : (p k n).known = true
    · simp only [hkn, if_true, h2]
      split <;> simp
    · simp only [hkn, if_false, Bool.false_eq_true]
      split <;> simp [knownL]

theorem RelP.known {p : Pc} {D E : List Bs} (h : RelP p D E) (hp : p.ok) (r : Int) : knownL D r = p.count r := by
  rw [h.eqD hp]
  have e : p.dlTo 27 = p.rowTo 0 9 ++ p.rowTo 1 9 ++ p.rowTo 2 9 := by
    have h2 := dlTo_row p 2 9 (by omega)
    have h1 := dlTo_row p 1 9 (by omega)
    have h0 := dlTo_row p 0 9 (by omega)
    simp only [Nat.reduceMul, Nat.reduceAdd] at h2 h1 h0
    rw [h2, h1, h0]; simp [Pc.dlTo]
  rw [e]
  have hadd : ∀ a b, knownL (a ++ b) r = knownL a r + knownL b r := fun a b => by simp [knownL, List.countP_append]
  rw [hadd, hadd, known_row p 0 r (by omega) 9 (by omega), known_row p 1 r (by omega) 9 (by omega), known_row p 2 r (by omega) 9 (by omega)]
  unfold Pc.count
  by_cases hr : 0 ≤ r ∧ r < 3
  · rw [if_pos hr]
    have : r = 0 ∨ r = 1 ∨ r = 2 := by omega
    rcases this with rfl | rfl | rfl <;> simp
  · rw [if_neg hr]
    have a0 : ¬ (r = ((0 : Nat) : Int)) := by omega
    have a1 : ¬ (r = ((1 : Nat) : Int)) := by omega
    have a2 : ¬ (r = ((2 : Nat) : Int)) := by omega
    rw [if_neg a0, if_neg a1, if_neg a2]

end Go.Proofs.YtkeanpabacfdlaaGreatDoor
