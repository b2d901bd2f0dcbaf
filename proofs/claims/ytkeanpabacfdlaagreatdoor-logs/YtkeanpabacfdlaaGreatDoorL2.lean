import Derived.Test.YtkeanpabacfdlaaGreatDoorL
namespace Go.Proofs.YtkeanpabacfdlaaGreatDoor
set_option linter.unusedVariables false
set_option linter.unusedSimpArgs false

theorem ofNat_lt {a b : Nat} (h : a < b) (hb : b < 256) : UInt8.ofNat a < UInt8.ofNat b := by
  rw [UInt8.lt_iff_toNat_lt, UInt8.toNat_ofNat', UInt8.toNat_ofNat']
  rw [Nat.mod_eq_of_lt (by omega), Nat.mod_eq_of_lt (by omega)]; exact h
theorem ofNat_inj {a b : Nat} (h : UInt8.ofNat a = UInt8.ofNat b) (ha : a < 256) (hb : b < 256) : a = b := by
  have := congrArg UInt8.toNat h
  rw [UInt8.toNat_ofNat', UInt8.toNat_ofNat', Nat.mod_eq_of_lt (by omega), Nat.mod_eq_of_lt (by omega)] at this; exact this
theorem dig_lt {a b : Nat} (h : a < b) (hb : b < 100) : dig a < dig b := ofNat_lt (by omega) (by omega)
theorem dig_inj {a b : Nat} (h : dig a = dig b) (ha : a < 100) (hb : b < 100) : a = b := by have := ofNat_inj h (by omega) (by omega); omega
theorem dig_toNat (a : Nat) (h : a < 100) : (dig a).toNat = 48 + a := by unfold dig; rw [UInt8.toNat_ofNat', Nat.mod_eq_of_lt (by omega)]
theorem cartB_lt {a b : Nat} (h : a < b) (hb : b < 100) : cartB a < cartB b := ofNat_lt (by omega) (by omega)
theorem cartB_inj {a b : Nat} (h : cartB a = cartB b) (ha : a < 100) (hb : b < 100) : a = b := by have := ofNat_inj h (by omega) (by omega); omega
theorem itemB_lt {a b : Nat} (h : a < b) (hb : b < 100) : itemB a < itemB b := ofNat_lt (by omega) (by omega)
theorem itemB_inj {a b : Nat} (h : itemB a = itemB b) (ha : a < 100) (hb : b < 100) : a = b := by have := ofNat_inj h (by omega) (by omega); omega

/-- A dot as text. -/
def dotT (r i : Nat) : Bs := [dig r, dig (i + 1)]

theorem dotT_inj {r i r' i' : Nat} (h : dotT r i = dotT r' i') (hr : r < 3) (hi : i < 9) (hr' : r' < 3) (hi' : i' < 9) : r = r' ∧ i = i' := by
  simp only [dotT, List.cons.injEq, and_true] at h
  have h1 := dig_inj h.1 (by omega) (by omega)
  have h2 := dig_inj h.2 (by omega) (by omega)
  omega

theorem valL_inj {v v' : Int} (h : valL v = valL v') (h0 : -99 ≤ v) (h1 : v ≤ 99) (h0' : -99 ≤ v') (h1' : v' ≤ 99) : v = v' := by
  simp only [valL, List.cons.injEq, and_true] at h
  obtain ⟨hs, ha, hb⟩ := h
  have e1 := dig_inj ha (by omega) (by omega)
  have e2 := dig_inj hb (by omega) (by omega)
  have e3 : v.natAbs = v'.natAbs := by omega
  by_cases hv : v < 0 <;> by_cases hv' : v' < 0
  · omega
  · rw [if_pos hv, if_neg hv'] at hs; exact absurd hs (by decide)
  · rw [if_neg hv, if_pos hv'] at hs; exact absurd hs (by decide)
  · omega

/-- What is not filled, what is not known, is nought. -/
def Pc.canon (p : Pc) : Prop := ∀ r i, r < 3 → i < 9 → (p r i).filled = false → (p r i).cart = 0 ∧ (p r i).item = 0 ∧ (p r i).value = 0

theorem text_dot (s : Sl) (r i : Nat) : dotOf (s.text r (i + 1)) = dotT r i := rfl
theorem text_len (s : Sl) (r i : Nat) : (s.text r i).length = 7 := rfl

structure Sl.good (s : Sl) : Prop where
  c0 : 0 ≤ s.cart
  c1 : s.cart < 3
  i0 : 0 ≤ s.item
  i1 : s.item < 4
  v0 : -99 ≤ s.value
  v1 : s.value ≤ 99

theorem Pc.ok.good {p : Pc} (h : p.ok) {r i : Nat} (hr : r < 3) (hi : i < 9) (hf : (p r i).filled = true) : (p r i).good :=
  let ⟨_, a, b, c, d, e, f⟩ := h r i hr hi hf
  ⟨a, b, c, d, e, f⟩

theorem text_inj {s s' : Sl} {r i r' i' : Nat} (h : s.text r (i + 1) = s'.text r' (i' + 1)) (hs : s.good) (hs' : s'.good) (hr : r < 3) (hi : i < 9) (hr' : r' < 3) (hi' : i' < 9) :
    r = r' ∧ i = i' ∧ s.cart = s'.cart ∧ s.item = s'.item ∧ s.value = s'.value := by
  simp only [Sl.text, List.cons_append, List.nil_append, List.cons.injEq] at h
  obtain ⟨h1, h2, h3, h4, h5⟩ := h
  obtain ⟨a1, a2, a3, a4, a5, a6⟩ := hs
  obtain ⟨b1, b2, b3, b4, b5, b6⟩ := hs'
  have e1 := cartB_inj h1 (by omega) (by omega)
  have e2 := itemB_inj h2 (by omega) (by omega)
  have e3 := dig_inj h3 (by omega) (by omega)
  have e4 := dig_inj h4 (by omega) (by omega)
  have e5 := valL_inj h5 a5 a6 b5 b6
  omega

/-- A piece, and the document's two lists. -/
structure RelP (p : Pc) (D E : List Bs) : Prop where
  sd : Srt D
  md : ∀ x, x ∈ D ↔ ∃ r i, r < 3 ∧ i < 9 ∧ (p r i).known = true ∧ x = dotT r i
  se : Srt E
  me : ∀ x, x ∈ E ↔ ∃ r i, r < 3 ∧ i < 9 ∧ (p r i).filled = true ∧ x = (p r i).text r (i + 1)

structure Pc.fine (p : Pc) : Prop where
  ok : p.ok
  canon : p.canon

theorem RelP.hasD {p : Pc} {D E : List Bs} (h : RelP p D E) {r i : Nat} (hr : r < 3) (hi : i < 9) : hasL D (dotT r i) = (p r i).known := by
  rw [Bool.eq_iff_iff, hasL_iff, h.md]
  constructor
  · rintro ⟨r', i', hr', hi', hk, e⟩
    obtain ⟨rfl, rfl⟩ := dotT_inj e hr hi hr' hi'
    exact hk
  · intro hk; exact ⟨r, i, hr, hi, hk, rfl⟩

theorem RelP.hasE {p : Pc} {D E : List Bs} (h : RelP p D E) (hp : p.ok) {s : Sl} {r i : Nat} (hr : r < 3) (hi : i < 9) (hs : s.good) :
    hasL E (s.text r (i + 1)) = ((p r i).filled && ((p r i).cart == s.cart && ((p r i).item == s.item && (p r i).value == s.value))) := by
  rw [Bool.eq_iff_iff, hasL_iff, h.me]
  constructor
  · rintro ⟨r', i', hr', hi', hk, e⟩
    obtain ⟨rfl, rfl, e1, e2, e3⟩ := text_inj e hs (hp.good hr' hi' hk) hr hi hr' hi'
    simp [hk, e1, e2, e3]
  · intro hk
    simp only [Bool.and_eq_true, beq_iff_eq] at hk
    obtain ⟨hk, e1, e2, e3⟩ := hk
    refine ⟨r, i, hr, hi, hk, ?_⟩
    unfold Sl.text
    rw [e1, e2, e3]

theorem RelP.ents_dots {p : Pc} {D E : List Bs} (h : RelP p D E) (hp : p.ok) : E.Pairwise (fun a b => dotOf a ≠ dotOf b) := by
  refine List.Pairwise.imp_of_mem ?_ h.se
  intro a b ha hb hlt e
  obtain ⟨r, i, hr, hi, hf, rfl⟩ := (h.me a).1 ha
  obtain ⟨r', i', hr', hi', hf', rfl⟩ := (h.me b).1 hb
  rw [text_dot, text_dot] at e
  obtain ⟨rfl, rfl⟩ := dotT_inj e hr hi hr' hi'
  exact lt_irr _ hlt

theorem RelP.uniq {p : Pc} {D E D' E' : List Bs} (h : RelP p D E) (k : RelP p D' E') : D = D' ∧ E = E' :=
  ⟨srt_ext h.sd k.sd (fun x => (h.md x).trans (k.md x).symm), srt_ext h.se k.se (fun x => (h.me x).trans (k.me x).symm)⟩

theorem rel_empty : RelP Pc.empty [] [] := by
  refine ⟨List.Pairwise.nil, ?_, List.Pairwise.nil, ?_⟩
  · intro x; simp [Pc.empty, Sl.zero]
  · intro x; simp [Pc.empty, Sl.zero]

theorem joinSl_known (a b : Sl) : (joinSl a b).known = (a.known || b.known) := by
  unfold joinSl
  cases ha : a.known
  · simp
  · simp only [if_true]
    split
    · simp [ha]
    · simp

theorem Sl.eq_of_same {a b : Sl} (h : Sl.same a b = true) : a = b := by
  simp only [Sl.same, Bool.and_eq_true, beq_iff_eq] at h
  exact Sl.ext' h.1 h.2.1 h.2.2.1 h.2.2.2.1 h.2.2.2.2

theorem join_fine {p q : Pc} (hp : p.fine) (hq : q.fine) : (p.join q).fine := by
  constructor
  · intro r i hr hi
    unfold Pc.join joinSl
    split
    · split
      · exact hp.ok r i hr hi
      · intro h; simp at h
    · exact hq.ok r i hr hi
  · intro r i hr hi
    unfold Pc.join joinSl
    split
    · split
      · exact hp.canon r i hr hi
      · intro h; simp
    · exact hq.canon r i hr hi

/-- The join of two pieces is the join of their lists. -/
theorem rel_join {p q : Pc} {D E D' E' : List Bs} (h : RelP p D E) (k : RelP q D' E') (hp : p.fine) (hq : q.fine) : RelP (p.join q) (joinD D D') (joinE D E D' E') := by
  refine ⟨?_, ?_, ?_, ?_⟩
  · refine srt_insAll _ _ _ _ h.sd ?_ ?_
    · intro e he hc; simpa [hasL] using hc
    · exact List.Pairwise.imp (fun {a b} hlt _ _ e => lt_irr _ (by simp only [id] at e; rw [← e] at hlt; exact hlt)) k.sd
  · intro x
    unfold joinD
    rw [mem_insAll, h.md]
    constructor
    · rintro (⟨r, i, hr, hi, hk, rfl⟩ | ⟨e, he, _, rfl⟩)
      · exact ⟨r, i, hr, hi, by rw [Pc.join, joinSl_known, hk]; rfl, rfl⟩
      · obtain ⟨r, i, hr, hi, hk, rfl⟩ := (k.md _).1 he
        exact ⟨r, i, hr, hi, by rw [Pc.join, joinSl_known, hk]; simp, rfl⟩
    · rintro ⟨r, i, hr, hi, hk, rfl⟩
      rw [Pc.join, joinSl_known] at hk
      cases hpk : (p r i).known with
      | true => exact .inl ⟨r, i, hr, hi, hpk, rfl⟩
      | false =>
        rw [hpk] at hk
        refine .inr ⟨dotT r i, (k.md _).2 ⟨r, i, hr, hi, by simpa using hk, rfl⟩, ?_, rfl⟩
        rw [h.hasD hr hi, hpk]; rfl
  · refine srt_insAll _ _ _ _ (srt_insAll _ _ _ _ List.Pairwise.nil (fun _ _ _ => by simp) ?_) ?_ ?_
    · exact List.Pairwise.imp (fun {a b} hlt _ _ e => lt_irr _ (by simp only [id] at e; rw [← e] at hlt; exact hlt)) h.se
    · intro e he hc hm
      rw [mem_insAll] at hm
      rcases hm with hm | ⟨e', he', _, ee⟩
      · simp at hm
      · simp only [id] at ee
        subst ee
        obtain ⟨r, i, hr, hi, hf, rfl⟩ := (h.me _).1 he'
        rw [text_dot, h.hasD hr hi, (hp.ok r i hr hi hf).1] at hc
        simp at hc
    · exact List.Pairwise.imp (fun {a b} hlt _ _ e => lt_irr _ (by simp only [id] at e; rw [← e] at hlt; exact hlt)) k.se
  · intro x
    unfold joinE
    rw [mem_insAll, mem_insAll]
    constructor
    · rintro ((hx | ⟨e, he, hc, rfl⟩) | ⟨e, he, hc, rfl⟩)
      · simp at hx
      · obtain ⟨r, i, hr, hi, hf, rfl⟩ := (h.me _).1 he
        have hg := hp.ok.good hr hi hf
        have hkn := (hp.ok r i hr hi hf).1
        rw [k.hasE hq.ok hr hi hg, text_dot, k.hasD hr hi] at hc
        have hj : (p.join q) r i = p r i := by
          unfold Pc.join joinSl
          rw [if_pos hkn]
          rw [if_pos]
          cases hqk : (q r i).known with
          | false => simp
          | true =>
            rw [hqk] at hc
            simp only [Bool.not_true, Bool.or_false, Bool.and_eq_true, beq_iff_eq] at hc
            simp [Sl.same, hkn, hf, hqk, hc.1, hc.2.1, hc.2.2.1, hc.2.2.2]
        exact ⟨r, i, hr, hi, by rw [hj]; exact hf, by rw [hj]⟩
      · obtain ⟨r, i, hr, hi, hf, rfl⟩ := (k.me _).1 he
        rw [text_dot, h.hasD hr hi] at hc
        have hpk : (p r i).known = false := by simpa using hc
        have hj : (p.join q) r i = q r i := by
          unfold Pc.join joinSl
          rw [hpk]; rfl
        exact ⟨r, i, hr, hi, by rw [hj]; exact hf, by rw [hj]⟩
    · rintro ⟨r, i, hr, hi, hf, rfl⟩
      cases hpk : (p r i).known with
      | false =>
        have hj : (p.join q) r i = q r i := by
          unfold Pc.join joinSl
          rw [hpk]; rfl
        rw [hj] at hf ⊢
        refine .inr ⟨_, (k.me _).2 ⟨r, i, hr, hi, hf, rfl⟩, ?_, rfl⟩
        rw [text_dot, h.hasD hr hi, hpk]; rfl
      | true =>
        cases hs : (!(q r i).known || Sl.same (p r i) (q r i)) with
        | false =>
          have hj : (p.join q) r i = ⟨true, false, 0, 0, 0⟩ := by
            unfold Pc.join joinSl
            rw [hpk, hs]; rfl
          rw [hj] at hf; simp at hf
        | true =>
          have hj : (p.join q) r i = p r i := by
            unfold Pc.join joinSl
            rw [hpk, hs]; rfl
          rw [hj] at hf ⊢
          refine .inl (.inr ⟨_, (h.me _).2 ⟨r, i, hr, hi, hf, rfl⟩, ?_, rfl⟩)
          rw [k.hasE hq.ok hr hi (hp.ok.good hr hi hf), text_dot, k.hasD hr hi]
          cases hqk : (q r i).known with
          | false => simp
          | true =>
            rw [hqk] at hs
            have he := Sl.eq_of_same (show Sl.same (p r i) (q r i) = true by simpa using hs)
            rw [← he, hf]; simp

end Go.Proofs.YtkeanpabacfdlaaGreatDoor
