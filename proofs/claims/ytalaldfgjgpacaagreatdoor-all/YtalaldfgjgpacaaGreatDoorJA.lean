import Derived.Test.YtalaldfgjgpacaaGreatDoorGC
import Derived.Test.YtalaldfgjgpacaaGreatDoorGF
import Derived.Test.YtalaldfgjgpacaaGreatDoorGG
import Derived.Test.YtalaldfgjgpacaaGreatDoorML
namespace Go.Proofs.YtalaldfgjgpacaaGreatDoor
set_option linter.unusedVariables false
set_option linter.unusedSimpArgs false

/-- What gather made is canonical. -/
theorem canon_dotT {p : Pc} (h : p.canon) (t : Bs) : (p.dotText t).canon := by
  unfold Pc.dotText
  split
  · unfold Pc.withDot
    split
    · intro r i hr hi hf
      unfold Pc.put at hf ⊢
      split at hf
      · rename_i e
        rw [if_pos e]
        obtain ⟨rfl, rfl⟩ := e
        exact h _ _ hr hi hf
      · rename_i e
        rw [if_neg e]
        exact h r i hr hi hf
    · exact h
  · exact h
theorem canon_withE {p : Pc} (h : p.canon) (k n : Nat) (c it v : Int) : (p.withEnt k n c it v).canon := by
  unfold Pc.withEnt
  split
  · intro r i hr hi hf
    unfold Pc.put at hf ⊢
    split at hf
    · cases hf
    · rename_i e
      rw [if_neg e]
      exact h r i hr hi hf
  · exact h
theorem canon_entT {p : Pc} (h : p.canon) (t : Bs) : (p.entText t).canon := by
  unfold Pc.entText
  cases (okD ((t.drop 2).take 2) && okD ((t.drop 5).take 2))
  · exact h
  · exact canon_withE h _ _ _ _ _
theorem canon_gDots (l : Bs) (k : Nat) : (gDots l k).canon := by
  induction k with
  | zero => intro r i _ _ _; simp [gDots, Pc.empty, Sl.zero]
  | succ k ih => exact canon_dotT ih _
theorem canon_gEnts {p : Pc} (h : p.canon) (l : Bs) (e k : Nat) : (gEnts p l e k).canon := by
  induction k with
  | zero => exact h
  | succ k ih => exact canon_entT ih _
theorem gather_fine (l : Bs) : (gatherL l).fine := ⟨gather_ok l, canon_gEnts (canon_gDots _ _) _ _ _⟩

theorem isDigB_dig (d : Nat) (h : d < 10) : isDigB (dig d) = true := by
  simp only [isDigB, Bool.and_eq_true, decide_eq_true_eq, UInt8.le_iff_toNat_le]
  rw [dig_toNat _ (by omega)]
  have e1 : (48 : UInt8).toNat = 48 := rfl
  have e2 : (57 : UInt8).toNat = 57 := rfl
  omega
theorem okD_two (a b : Nat) (ha : a < 10) (hb : b < 10) : okD [dig a, dig b] = true := by
  simp [okD, isDigB_dig a ha, isDigB_dig b hb]
theorem numTo_dd (a b : Nat) (ha : a < 10) (hb : b < 10) : numTo [dig a, dig b] 2 = a * 10 + b := by
  simp only [numTo, List.getD_cons_zero, List.getD_cons_succ, dig_toNat a (by omega), dig_toNat b (by omega)]; omega

/-- A dot more, in its row. -/
theorem rel_dot {p : Pc} {D : List Bs} (h : RelP p D []) (hn : ∀ r i, r < 3 → i < 9 → (p r i).filled = false) (r i : Nat) (hr : r < 3) (hi : i < 9) (hs : Srt (D ++ [dotT r i])) :
    RelP (p.dotText (dotT r i)) (D ++ [dotT r i]) [] ∧ ∀ k j, k < 3 → j < 9 → ((p.dotText (dotT r i)) k j).filled = false := by
  have e : p.dotText (dotT r i) = p.put r i { p r i with known := true } := by
    unfold Pc.dotText dotT
    rw [okD_two _ _ (by omega) (by omega), if_pos rfl]
    have : [dig r, dig (i + 1)].length = 2 := rfl
    rw [this, numTo_dd _ _ (by omega) (by omega)]
    unfold Pc.withDot
    have e1 : (r * 10 + (i + 1)) / 10 = r := by omega
    have e2 : (r * 10 + (i + 1)) % 10 = i + 1 := by omega
    rw [e1, e2, if_pos (by simp [dotOk]; omega)]; rfl
  rw [e]
  have hf : ∀ k j, k < 3 → j < 9 → ((p.put r i { p r i with known := true }) k j).filled = false := by
    intro k j hk hj
    unfold Pc.put
    split
    · exact hn r i hr hi
    · exact hn k j hk hj
  refine ⟨⟨hs, ?_, List.Pairwise.nil, ?_⟩, hf⟩
  · intro x
    rw [List.mem_append, h.md, List.mem_singleton]
    constructor
    · rintro (⟨k, j, hk, hj, hkn, rfl⟩ | rfl)
      · refine ⟨k, j, hk, hj, ?_, rfl⟩
        unfold Pc.put; split
        · rfl
        · exact hkn
      · exact ⟨r, i, hr, hi, by simp [Pc.put], rfl⟩
    · rintro ⟨k, j, hk, hj, hkn, rfl⟩
      by_cases e : k = r ∧ j = i
      · right; rw [e.1, e.2]
      · left; refine ⟨k, j, hk, hj, ?_, rfl⟩
        unfold Pc.put at hkn; rw [if_neg e] at hkn; exact hkn
  · intro x
    simp only [List.not_mem_nil, false_iff]
    rintro ⟨k, j, hk, hj, h', _⟩
    rw [hf k j hk hj] at h'; cases h'

/-- An entry more. -/
theorem rel_ent {p : Pc} {D E : List Bs} (h : RelP p D E) (s : Sl) (hg : s.good) (r i : Nat) (hr : r < 3) (hi : i < 9) (hd : dotT r i ∈ D) (hnd : ∀ e ∈ E, dotOf e ≠ dotT r i) (hs : Srt (E ++ [s.text r (i + 1)])) :
    RelP (p.entText (s.text r (i + 1))) D (E ++ [s.text r (i + 1)]) := by
  obtain ⟨a0, a1, b0, b1, c0, c1⟩ := hg
  have hnf : (p r i).filled = false := by
    cases hf : (p r i).filled
    · rfl
    · exact absurd (text_dot _ _ _) (hnd _ ((h.me _).2 ⟨r, i, hr, hi, hf, rfl⟩))
  have e : p.entText (s.text r (i + 1)) = p.put r i ⟨true, true, s.cart, s.item, s.value⟩ := by
    have e1 : ((s.text r (i + 1)).drop 2).take 2 = [dig r, dig (i + 1)] := rfl
    have e2 : ((s.text r (i + 1)).drop 5).take 2 = [dig (s.value.natAbs / 10), dig (s.value.natAbs % 10)] := rfl
    have e3 : (s.text r (i + 1)).getD 0 0 = cartB s.cart.toNat := rfl
    have e4 : (s.text r (i + 1)).getD 1 0 = itemB s.item.toNat := rfl
    have e5 : (s.text r (i + 1)).getD 4 0 = if s.value < 0 then 45 else 43 := rfl
    unfold Pc.entText
    rw [e1, e2, e3, e4, e5, okD_two _ _ (by omega) (by omega), okD_two _ _ (by omega) (by omega), Bool.and_self, if_pos rfl, numTo_dd _ _ (by omega) (by omega), numTo_dd _ _ (by omega) (by omega), cartB_toNat _ (by omega), itemB_toNat _ (by omega)]
    have v : (if (if s.value < 0 then (45 : UInt8) else 43) = 45 then -((s.value.natAbs / 10 * 10 + s.value.natAbs % 10 : Nat) : Int) else ((s.value.natAbs / 10 * 10 + s.value.natAbs % 10 : Nat) : Int)) = s.value := by
      by_cases hv : s.value < 0
      · rw [if_pos hv, if_pos rfl]; omega
      · rw [if_neg hv, if_neg (by decide)]; omega
    rw [v]
    unfold Pc.withEnt
    have f1 : (r * 10 + (i + 1)) / 10 = r := by omega
    have f2 : (r * 10 + (i + 1)) % 10 = i + 1 := by omega
    have f3 : ((97 + s.cart.toNat : Nat) : Int) - 97 = s.cart := by omega
    have f4 : ((65 + s.item.toNat : Nat) : Int) - 65 = s.item := by omega
    rw [f1, f2, f3, f4, if_pos (by simp [dotOk, entOk]; omega)]; rfl
  rw [e]
  have htx : ∀ (k j : Nat), ((⟨true, true, s.cart, s.item, s.value⟩ : Sl)).text k j = s.text k j := fun _ _ => rfl
  refine ⟨h.sd, ?_, hs, ?_⟩
  · intro x
    rw [h.md]
    constructor
    · rintro ⟨k, j, hk, hj, hkn, rfl⟩
      refine ⟨k, j, hk, hj, ?_, rfl⟩
      unfold Pc.put; split
      · rfl
      · exact hkn
    · rintro ⟨k, j, hk, hj, hkn, rfl⟩
      by_cases e : k = r ∧ j = i
      · rw [e.1, e.2]; exact (h.md _).1 hd
      · refine ⟨k, j, hk, hj, ?_, rfl⟩
        unfold Pc.put at hkn; rw [if_neg e] at hkn; exact hkn
  · intro x
    rw [List.mem_append, h.me, List.mem_singleton]
    constructor
    · rintro (⟨k, j, hk, hj, hf, rfl⟩ | rfl)
      · have hne : ¬ (k = r ∧ j = i) := by rintro ⟨rfl, rfl⟩; rw [hnf] at hf; cases hf
        refine ⟨k, j, hk, hj, ?_, ?_⟩
        · unfold Pc.put; rw [if_neg hne]; exact hf
        · unfold Pc.put; rw [if_neg hne]
      · exact ⟨r, i, hr, hi, by simp [Pc.put], by simp [Pc.put, htx]⟩
    · rintro ⟨k, j, hk, hj, hf, rfl⟩
      by_cases e : k = r ∧ j = i
      · right; obtain ⟨rfl, rfl⟩ := e; simp [Pc.put, htx]
      · left; refine ⟨k, j, hk, hj, ?_, ?_⟩
        · unfold Pc.put at hf; rw [if_neg e] at hf; exact hf
        · unfold Pc.put; rw [if_neg e]

theorem srt_take {L : List Bs} (h : Srt L) (k : Nat) : Srt (L.take k) := List.Pairwise.sublist (List.take_sublist _ _) h
theorem take_snoc {L : List Bs} {k : Nat} (h : k < L.length) : L.take (k + 1) = L.take k ++ [L[k]] := by
  rw [List.take_succ_eq_append_getElem h]
theorem dotG_no59 {D : List Bs} (h : ∀ d ∈ D, dotG d) : ∀ c ∈ D.flatten, (c != 59) = true := by
  intro c hc
  obtain ⟨d, hd, hcd⟩ := List.mem_flatten.1 hc
  obtain ⟨r, i, hr, hi, rfl⟩ := h d hd
  have hne : ∀ k, k < 10 → (dig k != 59) = true := by
    intro k hk
    simp only [bne_iff_ne, ne_eq]
    intro e
    have := congrArg UInt8.toNat e
    rw [dig_toNat _ (by omega)] at this
    have e' : (59 : UInt8).toNat = 59 := rfl
    omega
  simp only [dotT, List.mem_cons, List.not_mem_nil, or_false] at hcd
  rcases hcd with rfl | rfl
  · exact hne _ (by omega)
  · exact hne _ (by omega)

theorem good_end {l : Bs} {D E : List Bs} (g : Good l D E) : endTo l = 2 * D.length := by
  unfold endTo
  rw [g.eq, List.takeWhile_append_of_pos (dotG_no59 g.gd), List.takeWhile_cons]
  simp only [bne_self_eq_false, Bool.false_eq_true, if_false, List.append_nil]
  exact flat_len' D 2 (fun x hx => dotG_len (g.gd x hx))

theorem good_dots {l : Bs} {D E : List Bs} (g : Good l D E) (k : Nat) : k ≤ D.length → RelP (gDots l k) (D.take k) [] ∧ ∀ r i, r < 3 → i < 9 → ((gDots l k) r i).filled = false := by
  induction k with
  | zero =>
    intro _
    refine ⟨?_, fun r i _ _ => by simp [gDots, Pc.empty, Sl.zero]⟩
    rw [gDots, List.take_zero]; exact rel_empty
  | succ k ih =>
    intro hk
    obtain ⟨h1, h2⟩ := ih (by omega)
    have hd : (l.drop (2 * k)).take 2 = D[k] := by
      rw [g.eq, flat_drop 2 D (fun x hx => dotG_len (g.gd x hx)) _ k (by omega), List.drop_eq_getElem_cons (by omega), List.flatten_cons, List.append_assoc]
      have := dotG_len (g.gd D[k] (List.getElem_mem _))
      rw [← this, List.take_left]
    obtain ⟨r, i, hr, hi, e⟩ := g.gd D[k] (List.getElem_mem _)
    rw [gDots, hd, take_snoc (by omega), e]
    refine rel_dot h1 h2 r i hr hi ?_
    rw [← e, ← take_snoc (by omega)]; exact srt_take g.sd _

theorem good_ents {l : Bs} {D E : List Bs} (g : Good l D E) (p : Pc) (h : RelP p D []) (k : Nat) : k ≤ E.length → RelP (gEnts p l (2 * D.length) k) D (E.take k) := by
  induction k with
  | zero => intro _; rw [gEnts, List.take_zero]; exact h
  | succ k ih =>
    intro hk
    have h1 := ih (by omega)
    have hd : (l.drop (2 * D.length + 1 + 7 * k)).take 7 = E[k] := by
      have e0 : l.drop (2 * D.length + 1) = E.flatten := by
        rw [g.eq]
        have : 2 * D.length + 1 = (D.flatten ++ [59]).length := by rw [List.length_append, flat_len' D 2 (fun x hx => dotG_len (g.gd x hx))]; rfl
        rw [this, show D.flatten ++ 59 :: E.flatten = (D.flatten ++ [59]) ++ E.flatten by simp, List.drop_left]
      have h3 := flat_drop 7 E (fun x hx => entG_len (g.ge x hx)) [] k (by omega)
      rw [List.append_nil, List.append_nil] at h3
      rw [← List.drop_drop (i := 7 * k) (j := 2 * D.length + 1), e0, h3, List.drop_eq_getElem_cons (by omega), List.flatten_cons]
      have := entG_len (g.ge E[k] (List.getElem_mem _))
      rw [← this, List.take_left]
    obtain ⟨s, r, i, hr, hi, hg, e⟩ := g.ge E[k] (List.getElem_mem _)
    rw [gEnts, hd, take_snoc (by omega), e]
    refine rel_ent h1 s hg r i hr hi ?_ ?_ ?_
    · have := g.ed E[k] (List.getElem_mem _)
      rw [e] at this; exact this
    · intro x hx hxe
      have hn := g.nd
      rw [← List.take_append_drop k E, List.pairwise_append] at hn
      refine hn.2.2 x hx E[k] (by rw [List.drop_eq_getElem_cons (by omega)]; exact List.mem_cons_self) ?_
      rw [e, text_dot]; exact hxe
    · rw [← e, ← take_snoc (by omega)]; exact srt_take g.se _

/-- What gather makes of a piece's text is the piece. -/
theorem good_rel {l : Bs} {D E : List Bs} (g : Good l D E) : RelP (gatherL l) D E := by
  have he := good_end g
  have hl : l.length = 2 * D.length + 1 + 7 * E.length := by
    have := congrArg List.length g.eq
    rw [List.length_append, List.length_cons, flat_len' D 2 (fun x hx => dotG_len (g.gd x hx)), flat_len' E 7 (fun x hx => entG_len (g.ge x hx))] at this
    omega
  unfold gatherL
  rw [he, hl, show 2 * D.length / 2 = D.length by omega, show (2 * D.length + 1 + 7 * E.length - (2 * D.length + 1)) / 7 = E.length by omega]
  have h1 := (good_dots g D.length (Nat.le_refl _)).1
  rw [List.take_length] at h1
  have h2 := good_ents g _ h1 E.length (Nat.le_refl _)
  rw [List.take_length] at h2
  exact h2
theorem good_text {l : Bs} {D E : List Bs} (g : Good l D E) : (gatherL l).text = l := by
  rw [← (good_rel g).write (gather_ok l)]
  unfold writeL
  rw [g.eq]; simp
theorem good_read {l : Bs} {D E : List Bs} (g : Good l D E) : readOk l = true := by unfold readOk; rw [good_text g]; simp
theorem good_readP {l : Bs} {D E : List Bs} (g : Good l D E) : RelP (readP l) D E ∧ (readP l).fine ∧ (readP l).text = l := by
  unfold readP; rw [good_read g, if_pos rfl]; exact ⟨good_rel g, gather_fine l, good_text g⟩

/-- The lists of a piece are its text's. -/
theorem rel_good {p : Pc} {D E : List Bs} (h : RelP p D E) (hp : p.ok) : Good p.text D E := by
  refine ⟨?_, h.sd, ?_, h.se, ?_, ?_, h.ents_dots hp⟩
  · rw [← h.write hp]; unfold writeL; simp
  · intro d hd
    obtain ⟨r, i, hr, hi, _, rfl⟩ := (h.md d).1 hd
    exact ⟨r, i, hr, hi, rfl⟩
  · intro e he
    obtain ⟨r, i, hr, hi, hf, rfl⟩ := (h.me e).1 he
    exact ⟨p r i, r, i, hr, hi, hp.good hr hi hf, rfl⟩
  · intro e he
    obtain ⟨r, i, hr, hi, hf, rfl⟩ := (h.me e).1 he
    exact (h.md _).2 ⟨r, i, hr, hi, (hp r i hr hi hf).1, rfl⟩
theorem read_good {l : Bs} (h : readOk l = true) : ∃ D E, Good l D E := by
  have e : (gatherL l).text = l := by simpa [readOk] using h
  refine ⟨(gatherL l).dlTo 27, (gatherL l).elAll 12, ?_⟩
  have := rel_good (rel_lists (gatherL l) (gather_ok l)) (gather_ok l)
  rw [e] at this; exact this
theorem noread {l : Bs} (h : ∀ D E, ¬ Good l D E) : readOk l = false := by
  cases hr : readOk l
  · rfl
  · obtain ⟨D, E, g⟩ := read_good hr
    exact absurd g (h D E)
end Go.Proofs.YtalaldfgjgpacaaGreatDoor

namespace Go.Proofs.YtalaldfgjgpacaaGreatDoor
set_option linter.unusedVariables false
set_option linter.unusedSimpArgs false

theorem holeTo_iff (p : Pc) (n : Nat) : p.holeTo n = true ↔ ∃ m, m < n ∧ holeAt p m = true := by
  induction n with
  | zero => simp [Pc.holeTo]
  | succ n ih =>
    rw [Pc.holeTo, Bool.or_eq_true, ih]
    constructor
    · rintro (⟨m, hm, h⟩ | h)
      · exact ⟨m, by omega, h⟩
      · exact ⟨n, by omega, h⟩
    · rintro ⟨m, hm, h⟩
      by_cases e : m = n
      · subst e; exact .inr h
      · exact .inl ⟨m, by omega, h⟩
theorem holeAt_iff (p : Pc) (r i : Nat) (hi : i < 9) : holeAt p (r * 9 + i) = true ↔ 0 < i ∧ (p r i).known = true ∧ (p r (i - 1)).known = false := by
  by_cases h0 : 0 < i
  · rw [holeTo_ri p r i hi h0]; simp [h0]
  · have : i = 0 := by omega
    subst this
    simp [holeAt]
theorem hole_iff (p : Pc) : p.holeTo 27 = true ↔ ∃ r i, r < 3 ∧ i + 1 < 9 ∧ (p r (i + 1)).known = true ∧ (p r i).known = false := by
  rw [holeTo_iff]
  constructor
  · rintro ⟨m, hm, h⟩
    have hmi : m = m / 9 * 9 + m % 9 := by omega
    rw [hmi, holeAt_iff p _ _ (by omega)] at h
    obtain ⟨h0, h1, h2⟩ := h
    refine ⟨m / 9, m % 9 - 1, by omega, by omega, ?_, h2⟩
    rw [show m % 9 - 1 + 1 = m % 9 by omega]; exact h1
  · rintro ⟨r, i, hr, hi, h1, h2⟩
    exact ⟨r * 9 + (i + 1), by omega, (holeAt_iff p r (i + 1) hi).2 ⟨by omega, h1, by simpa using h2⟩⟩
theorem hole_none {p : Pc} (h : p.holeTo 27 = false) : p.noHole := by
  intro r i hr hi hk
  cases hf : (p r i).known
  · have := (hole_iff p).2 ⟨r, i, hr, hi, hk, hf⟩
    rw [h] at this; cases this
  · rfl

theorem ahead_dot (r i : Nat) (hi : i + 1 < 9) : aheadT (dotT r (i + 1)) = dotT r i := by
  unfold aheadT dotT
  simp only [List.getD_cons_zero, List.getD_cons_succ, dig_toNat (i + 1 + 1) (by omega)]
  have : UInt8.ofNat (48 + (i + 1 + 1) - 1) = dig (i + 1) := by unfold dig; congr 1
  rw [this]

theorem RelP.hole {p : Pc} {D E : List Bs} (h : RelP p D E) : D.any (holeF D) = p.holeTo 27 := by
  rw [Bool.eq_iff_iff, hole_iff, List.any_eq_true]
  constructor
  · rintro ⟨d, hd, hf⟩
    obtain ⟨r, i, hr, hi, hk, rfl⟩ := (h.md d).1 hd
    simp only [holeF, Bool.and_eq_true, decide_eq_true_eq, Bool.not_eq_true'] at hf
    have h1 : (dotT r i).getD 1 0 = dig (i + 1) := rfl
    rw [h1, dig_toNat _ (by omega)] at hf
    obtain ⟨j, rfl⟩ : ∃ j, i = j + 1 := ⟨i - 1, by omega⟩
    rw [ahead_dot r j (by omega), h.hasD hr (by omega)] at hf
    exact ⟨r, j, hr, by omega, hk, hf.2⟩
  · rintro ⟨r, i, hr, hi, h1, h2⟩
    refine ⟨dotT r (i + 1), (h.md _).2 ⟨r, i + 1, hr, hi, h1, rfl⟩, ?_⟩
    simp only [holeF, Bool.and_eq_true, decide_eq_true_eq, Bool.not_eq_true']
    have e1 : (dotT r (i + 1)).getD 1 0 = dig (i + 1 + 1) := rfl
    rw [e1, dig_toNat _ (by omega), ahead_dot r i hi, h.hasD hr (by omega)]
    exact ⟨by omega, h2⟩

theorem cnt_zero_iff (kn : Nat → Bool) (n : Nat) : cnt kn n = 0 ↔ ∀ i, i < n → kn i = false := by
  induction n with
  | zero => simp [cnt]
  | succ n ih =>
    simp only [cnt]
    constructor
    · intro h i hi
      by_cases e : i = n
      · subst e; cases hk : kn i
        · rfl
        · rw [hk] at h; simp at h
      · exact ih.1 (by omega) i (by omega)
    · intro h
      rw [ih.2 (fun i hi => h i (by omega)), h n (by omega)]; simp
theorem count_zero_iff (p : Pc) (r : Nat) (hr : r < 3) : p.count (r : Int) = 0 ↔ ∀ i, i < 9 → (p r i).known = false := by
  unfold Pc.count
  rw [if_pos (by omega), cnt_zero_iff]; simp

theorem ofTo_iff (p : Pc) (n k : Nat) : ofTo p n k = true ↔ ∀ r, r < k → r < n ∨ p.count (r : Int) = 0 := by
  induction k with
  | zero => simp [ofTo]
  | succ k ih =>
    rw [ofTo, Bool.and_eq_true, ih]
    simp only [Bool.or_eq_true, decide_eq_true_eq]
    constructor
    · rintro ⟨h1, h2⟩ r hr
      by_cases e : r = k
      · subst e; exact h2
      · exact h1 r (by omega)
    · intro h
      exact ⟨fun r hr => h r (by omega), h k (by omega)⟩

theorem RelP.foreign {p : Pc} {D E : List Bs} (h : RelP p D E) (n : Nat) : D.any (foreignF (n : Int)) = !ofTo p n 3 := by
  have key : D.any (foreignF (n : Int)) = true ↔ ¬ ofTo p n 3 = true := by
    rw [ofTo_iff, List.any_eq_true]
    have hd : ∀ r i, r < 3 → ((dotT r i).getD 0 0).toNat = 48 + r := fun r i hr => by
      show (dig r).toNat = _; rw [dig_toNat _ (by omega)]
    constructor
    · rintro ⟨d, hm, hf⟩ hall
      obtain ⟨r, i, hr, hi, hk, rfl⟩ := (h.md d).1 hm
      simp only [foreignF, decide_eq_true_eq, hd r i hr] at hf
      rcases hall r hr with h1 | h1
      · omega
      · rw [(count_zero_iff p r hr).1 h1 i hi] at hk; cases hk
    · intro hn
      obtain ⟨r, hn⟩ := Classical.not_forall.1 hn
      have hr : r < 3 := Classical.byContradiction fun h' => hn (fun hr => absurd hr h')
      have hn' : ¬ (r < n ∨ p.count (r : Int) = 0) := fun h' => hn (fun _ => h')
      have h1 : ¬ r < n := fun x => hn' (.inl x)
      have h2 : ¬ p.count (r : Int) = 0 := fun x => hn' (.inr x)
      rw [count_zero_iff p r hr] at h2
      obtain ⟨i, h2⟩ := Classical.not_forall.1 h2
      have hi : i < 9 := Classical.byContradiction fun h' => h2 (fun hi => absurd hi h')
      have hk : (p r i).known = true := by
        cases hk : (p r i).known
        · exact absurd (fun _ => hk) h2
        · rfl
      refine ⟨dotT r i, (h.md _).2 ⟨r, i, hr, hi, hk, rfl⟩, ?_⟩
      simp only [foreignF, decide_eq_true_eq, hd r i hr]; omega
  cases h1 : D.any (foreignF (n : Int)) <;> cases h2 : ofTo p n 3 <;> simp_all

theorem cnt_lt {kn kn' : Nat → Bool} (n : Nat) (h : ∀ i, i < n → kn i = true → kn' i = true) (j : Nat) (hj : j < n) (h0 : kn j = false) (h1 : kn' j = true) : cnt kn n < cnt kn' n := by
  induction n with
  | zero => omega
  | succ n ih =>
    simp only [cnt]
    by_cases e : j = n
    · subst e
      have := cnt_mono j (fun i hi hk => h i (by omega) hk)
      rw [h0, h1]; simp; omega
    · have := ih (fun i hi => h i (by omega)) (by omega)
      by_cases hk : kn n = true
      · rw [if_pos hk, if_pos (h n (by omega) hk)]; omega
      · rw [if_neg hk]; omega
theorem dots_lt {p q : Pc} (h : ∀ r i, r < 3 → i < 9 → (p r i).known = true → (q r i).known = true) : p.dots < q.dots ↔ ∃ r i, r < 3 ∧ i < 9 ∧ (p r i).known = false ∧ (q r i).known = true := by
  have m := fun r hr => count_mono h r hr
  constructor
  · intro hlt
    apply Classical.byContradiction
    intro hn
    have he : ∀ r i, r < 3 → i < 9 → (q r i).known = true → (p r i).known = true := by
      intro r i hr hi hk
      cases hp : (p r i).known
      · exact absurd ⟨r, i, hr, hi, hp, hk⟩ hn
      · rfl
    have m' := fun r hr => count_mono he r hr
    unfold Pc.dots at hlt
    have := m' 0 (by omega); have := m' 1 (by omega); have := m' 2 (by omega)
    omega
  · rintro ⟨r, i, hr, hi, h0, h1⟩
    have hs : p.count (r : Int) < q.count (r : Int) := by
      unfold Pc.count
      rw [if_pos (by omega), if_pos (by omega)]
      exact cnt_lt 9 (fun j hj hk => h r j hr hj hk) i hi h0 h1
    have a0 := m 0 (by omega); have a1 := m 1 (by omega); have a2 := m 2 (by omega)
    unfold Pc.dots
    have : r = 0 ∨ r = 1 ∨ r = 2 := by omega
    rcases this with rfl | rfl | rfl <;> omega

theorem RelP.brings {p q : Pc} {D E D' E' : List Bs} (h : RelP p D E) (k : RelP q D' E') : D'.any (bringsF D) = decide (p.dots < (p.join q).dots) := by
  rw [Bool.eq_iff_iff, decide_eq_true_eq, List.any_eq_true, dots_lt (fun r i _ _ hk => by simp only [Pc.join, joinSl_known, hk, Bool.true_or])]
  constructor
  · rintro ⟨d, hd, hb⟩
    obtain ⟨r, i, hr, hi, hk, rfl⟩ := (k.md d).1 hd
    simp only [bringsF, Bool.not_eq_true', h.hasD hr hi] at hb
    exact ⟨r, i, hr, hi, hb, by simp only [Pc.join, joinSl_known, hk, Bool.or_true]⟩
  · rintro ⟨r, i, hr, hi, h0, h1⟩
    simp only [Pc.join, joinSl_known, h0, Bool.false_or] at h1
    exact ⟨dotT r i, (k.md _).2 ⟨r, i, hr, hi, h1, rfl⟩, by simp only [bringsF, h.hasD hr hi, h0]; rfl⟩

theorem clashTo_iff (p q : Pc) (n : Nat) : clashTo p q n = true ↔ ∃ m, m < n ∧ clashSl (p.nth m) (q.nth m) = true := by
  induction n with
  | zero => simp [clashTo]
  | succ n ih =>
    rw [clashTo, Bool.or_eq_true, ih]
    constructor
    · rintro (⟨m, hm, h⟩ | h)
      · exact ⟨m, by omega, h⟩
      · exact ⟨n, by omega, h⟩
    · rintro ⟨m, hm, h⟩
      by_cases e : m = n
      · subst e; exact .inr h
      · exact .inl ⟨m, by omega, h⟩
theorem entEq_iff (a b : Sl) : entEq a b = true ↔ a.cart = b.cart ∧ a.item = b.item ∧ a.value = b.value := by simp [entEq]

theorem RelP.clash {p q : Pc} {D E D' E' : List Bs} (h : RelP p D E) (k : RelP q D' E') (hp : p.ok) (hq : q.ok) : E'.any (clashE E) = clashTo p q 27 := by
  rw [Bool.eq_iff_iff, clashTo_iff, List.any_eq_true]
  constructor
  · rintro ⟨e, he, hc⟩
    rw [clashE, List.any_eq_true] at hc
    obtain ⟨f, hf, hc⟩ := hc
    obtain ⟨r, i, hr, hi, hfl, rfl⟩ := (k.me e).1 he
    obtain ⟨r', i', hr', hi', hfl', rfl⟩ := (h.me f).1 hf
    simp only [clashF, Bool.and_eq_true, beq_iff_eq, Bool.not_eq_true', text_dot] at hc
    obtain ⟨rfl, rfl⟩ := dotT_inj hc.1 hr hi hr' hi'
    refine ⟨r * 9 + i, by omega, ?_⟩
    rw [Pc.nth_ri _ _ _ hi, Pc.nth_ri _ _ _ hi]
    simp only [clashSl, hfl, hfl', Bool.and_self, Bool.true_and, Bool.not_eq_true']
    cases heq : entEq (p r i) (q r i)
    · rfl
    · obtain ⟨h1, h2, h3⟩ := (entEq_iff _ _).1 heq
      have : (q r i).text r (i + 1) = (p r i).text r (i + 1) := by unfold Sl.text; rw [h1, h2, h3]
      rw [this] at hc; simp at hc
  · rintro ⟨m, hm, hc⟩
    simp only [clashSl, Bool.and_eq_true, Bool.not_eq_true', Pc.nth] at hc
    obtain ⟨⟨h1, h2⟩, h3⟩ := hc
    have hr : m / 9 < 3 := by omega
    have hi : m % 9 < 9 := by omega
    refine ⟨_, (k.me _).2 ⟨m / 9, m % 9, hr, hi, h2, rfl⟩, ?_⟩
    rw [clashE, List.any_eq_true]
    refine ⟨_, (h.me _).2 ⟨m / 9, m % 9, hr, hi, h1, rfl⟩, ?_⟩
    simp only [clashF, text_dot, beq_self_eq_true, Bool.true_and, Bool.not_eq_true', beq_eq_false_iff_ne, ne_eq]
    intro e
    have e' := text_inj e (hq.good hr hi h2) (hp.good hr hi h1) hr hi hr hi
    have : entEq (p (m / 9) (m % 9)) (q (m / 9) (m % 9)) = true := by
      rw [entEq_iff]; obtain ⟨_, _, a, b, c⟩ := e'; exact ⟨a.symm, b.symm, c.symm⟩
    rw [h3] at this; cases this

theorem rowTo_len (p : Pc) (r n : Nat) : (p.rowTo r n).length = cnt (fun i => (p r i).known) n := by
  induction n with
  | zero => rfl
  | succ n ih =>
    rw [Pc.rowTo, List.length_append, ih, cnt]
    split <;> simp
theorem RelP.lenDots {p : Pc} {D E : List Bs} (h : RelP p D E) (hp : p.ok) : D.length = p.dots := by
  rw [h.eqD hp]
  have e : p.dlTo 27 = p.rowTo 0 9 ++ p.rowTo 1 9 ++ p.rowTo 2 9 := by
    have h2 := dlTo_row p 2 9 (by omega)
    have h1 := dlTo_row p 1 9 (by omega)
    have h0 := dlTo_row p 0 9 (by omega)
    simp only [Nat.reduceMul, Nat.reduceAdd] at h2 h1 h0
    rw [h2, h1, h0]; simp [Pc.dlTo]
  rw [e, List.length_append, List.length_append, rowTo_len, rowTo_len, rowTo_len]
  unfold Pc.dots Pc.count
  rw [if_pos (by omega), if_pos (by omega), if_pos (by omega)]; rfl
end Go.Proofs.YtalaldfgjgpacaaGreatDoor

namespace Go.Proofs.YtalaldfgjgpacaaGreatDoor
set_option linter.unusedVariables false
set_option linter.unusedSimpArgs false

/-- One frame's body: whether it may stand, and what it makes. -/
def stepOk (n : Nat) (first : Bool) (h : Pc) : Bs → Bool
  | [] => false
  | c :: t => if c = 68 then deltaOk n h t else (decide (c = 83) && first) && wholeOk n h t
def stepTo (n : Nat) (first : Bool) (h : Pc) : Bs → Pc
  | [] => h
  | c :: t => if c = 68 then deltaTo n h t else if (decide (c = 83) && first) = true then wholeTo n h t else h
def stepX (n : Nat) (first : Bool) (h : Pc) (x : Ext) : Bs → Ext
  | [] => x
  | c :: t => if c = 68 then deltaX n h x t else if (decide (c = 83) && first) = true then wholeX n h x t else x

def frLen (log : Bs) (a : Nat) : Nat := numTo ((log.drop a).take 3) 3
def frBody (log : Bs) (a : Nat) : Bs := (log.drop (a + 3)).take (frLen log a)
/-- What is next in a log: its end (0), what is none (1), a frame (2). -/
def logSt (n : Nat) (log : Bs) (a : Nat) (h : Pc) : Nat :=
  if log.length < a + 3 then 0 else if okD ((log.drop a).take 3) = true then (if log.length < a + 3 + frLen log a then 0 else if stepOk n (a == 0) h (frBody log a) = true then 2 else 1) else 1

structure LR where
  ok : Bool
  a : Nat
  h : Pc
  x : Ext
def logRun (n : Nat) (log : Bs) : Nat → Nat → Pc → Ext → LR
  | 0, a, h, x => ⟨true, a, h, x⟩
  | f + 1, a, h, x => if logSt n log a h = 0 then ⟨true, a, h, x⟩ else if logSt n log a h = 1 then ⟨false, a, h, x⟩ else
      logRun n log f (a + 3 + frLen log a) (stepTo n (a == 0) h (frBody log a)) (stepX n (a == 0) h x (frBody log a))

theorem dig_all {d : Bs} (h : okD d = true) (j : Nat) (hj : j < d.length) : isDigB (d.getD j 0) = true := by
  simp only [okD, Bool.and_eq_true, decide_eq_true_eq] at h
  exact (List.all_eq_true.1 h.2.2) _ (by rw [List.getD_eq_getElem?_getD, List.getElem?_eq_getElem hj]; exact List.getElem_mem _)
theorem isDigB_iff (c : UInt8) : isDigB c = true ↔ 48 ≤ c.toNat ∧ c.toNat ≤ 57 := by
  simp only [isDigB, Bool.and_eq_true, decide_eq_true_eq, UInt8.le_iff_toNat_le]
  exact Iff.rfl

/-- Digits write the number that they tell. -/
theorem lastD_num2 (d : Bs) (hd : d.length = 2) (h : okD d = true) : lastD (numTo d 2) 2 = d := by
  match d, hd with
  | [c0, c1], _ =>
    have h0 := (isDigB_iff _).1 (dig_all h 0 (by simp))
    have h1 := (isDigB_iff _).1 (dig_all h 1 (by simp))
    simp only [List.getD_cons_zero, List.getD_cons_succ] at h0 h1
    simp only [lastD, numTo, List.getD_cons_zero, List.getD_cons_succ, Nat.pow_zero, Nat.div_one, Nat.pow_one]
    rw [show ((0 * 10 + (c0.toNat - 48)) * 10 + (c1.toNat - 48)) / 10 % 10 = c0.toNat - 48 by omega, show ((0 * 10 + (c0.toNat - 48)) * 10 + (c1.toNat - 48)) % 10 = c1.toNat - 48 by omega, ← dig_of h0.1 (by omega), ← dig_of h1.1 (by omega)]
theorem lastD_num3 (d : Bs) (hd : d.length = 3) (h : okD d = true) : lastD (numTo d 3) 3 = d := by
  match d, hd with
  | [c0, c1, c2], _ =>
    have h0 := (isDigB_iff _).1 (dig_all h 0 (by simp))
    have h1 := (isDigB_iff _).1 (dig_all h 1 (by simp))
    have h2 := (isDigB_iff _).1 (dig_all h 2 (by simp))
    simp only [List.getD_cons_zero, List.getD_cons_succ] at h0 h1 h2
    simp only [lastD, numTo, List.getD_cons_zero, List.getD_cons_succ, Nat.pow_zero, Nat.div_one, Nat.pow_one]
    rw [show ((((0 * 10 + (c0.toNat - 48)) * 10 + (c1.toNat - 48)) * 10 + (c2.toNat - 48)) / 10 ^ 2) % 10 = c0.toNat - 48 by omega, show (((0 * 10 + (c0.toNat - 48)) * 10 + (c1.toNat - 48)) * 10 + (c2.toNat - 48)) / 10 % 10 = c1.toNat - 48 by omega,
      show (((0 * 10 + (c0.toNat - 48)) * 10 + (c1.toNat - 48)) * 10 + (c2.toNat - 48)) % 10 = c2.toNat - 48 by omega, ← dig_of h0.1 (by omega), ← dig_of h1.1 (by omega), ← dig_of h2.1 (by omega)]

theorem join_none (q : Pc) : Pc.empty.join q = q := by
  funext r i
  simp [Pc.join, joinSl, Pc.empty, Sl.zero]
theorem readP_fine {l : Bs} (h : readOk l = true) : (readP l).fine ∧ (readP l).text = l := by
  obtain ⟨D, E, g⟩ := read_good h
  exact (good_readP g).2

/-- How far a log has been read. -/
structure LInv (log : Bs) (a : Nat) (h : Pc) (x : Ext) : Prop where
  le : a ≤ log.length
  fine : h.fine
  hole : h.noHole
  log : x.log = log.take a
  had : x.had ≤ h.dots
  z : a = 0 → h = Pc.empty ∧ x = Ext.zero
  bare : x.late = [] ∧ x.ack = fun _ => 0

theorem LInv.start (log : Bs) : LInv log 0 Pc.empty Ext.zero := ⟨Nat.zero_le _, fine_empty, noHole_empty, by simp [Ext.zero], Nat.zero_le _, fun _ => ⟨rfl, rfl⟩, ⟨rfl, rfl⟩⟩

theorem fits_hole {n : Nat} {h q : Pc} (hf : fitsB n h q = true) : (h.join q).noHole := by
  simp only [fitsB, Bool.and_eq_true, Bool.not_eq_true'] at hf
  exact hole_none hf.2.2

theorem logSt_two {n : Nat} {log : Bs} {a : Nat} {h : Pc} (hs : logSt n log a h ≠ 0) (hs1 : logSt n log a h ≠ 1) : a + 3 + frLen log a ≤ log.length ∧ okD ((log.drop a).take 3) = true ∧ stepOk n (a == 0) h (frBody log a) = true := by
  unfold logSt at hs hs1
  split at hs
  · exact absurd rfl hs
  · rename_i h1
    rw [if_neg h1] at hs1
    split at hs
    · rename_i h2
      rw [if_pos h2] at hs1
      split at hs
      · exact absurd rfl hs
      · rename_i h3
        rw [if_neg h3] at hs1
        split at hs
        · rename_i h4; exact ⟨by omega, h2, h4⟩
        · rename_i h4; rw [if_neg h4] at hs1; exact absurd rfl hs1
    · rename_i h2; rw [if_neg h2] at hs1; exact absurd rfl hs1

theorem LInv.next {n : Nat} {log : Bs} {a : Nat} {h : Pc} {x : Ext} (I : LInv log a h x) (hs : logSt n log a h ≠ 0) (hs1 : logSt n log a h ≠ 1) :
    LInv log (a + 3 + frLen log a) (stepTo n (a == 0) h (frBody log a)) (stepX n (a == 0) h x (frBody log a)) := by
  obtain ⟨hl, hd, ho⟩ := logSt_two hs hs1
  have hdl : ((log.drop a).take 3).length = 3 := by simp; omega
  have hnum := lastD_num3 _ hdl hd
  have htk : log.take (a + 3 + frLen log a) = log.take a ++ ((log.drop a).take 3 ++ frBody log a) := by
    rw [List.take_add, List.take_add, List.append_assoc]; rfl
  have hbl : (frBody log a).length = frLen log a := by unfold frBody; simp; omega
  have hne : a + 3 + frLen log a ≠ 0 := by omega
  have hfr : ∀ b : Bs, b = frBody log a → frameL b = (log.drop a).take 3 ++ frBody log a := by
    rintro b rfl
    unfold frameL
    rw [hbl, ← hnum]
    show lastD (numTo _ 3) 3 ++ _ = lastD (numTo _ 3) 3 ++ _
    rw [hnum]
  generalize hb : frBody log a = body at *
  cases body with
  | nil => simp [stepOk] at ho
  | cons c t =>
    by_cases hc : c = 68
    · subst hc
      simp only [stepOk, if_true] at ho
      have ho' := ho
      simp only [deltaOk, Bool.and_eq_true, decide_eq_true_eq] at ho'
      obtain ⟨o1, o2, o3⟩ := ho'
      obtain ⟨f1, f2⟩ := readP_fine o1
      simp only [stepTo, stepX, if_true, deltaTo, deltaX, ho]
      refine ⟨hl, join_fine I.fine f1, fits_hole o2, ?_, ?_, fun e => absurd e hne, I.bare⟩
      · show x.log ++ frameL ([68] ++ (readP t).text) = _
        rw [f2, htk, I.log, hfr ([68] ++ t) rfl]
      · show x.had + 1 ≤ _
        have := I.had; omega
    · simp only [stepOk, if_neg hc, Bool.and_eq_true] at ho
      obtain ⟨⟨o0, of⟩, ow⟩ := ho
      have hc83 : c = 83 := by simpa using o0
      subst hc83
      have ha : a = 0 := by simpa using of
      obtain ⟨rfl, rfl⟩ := I.z ha
      have ow' := ow
      simp only [wholeOk, Bool.and_eq_true, decide_eq_true_eq] at ow'
      obtain ⟨w0, w1, w2, w3, w4⟩ := ow'
      obtain ⟨f1, f2⟩ := readP_fine w2
      have e2 := lastD_num2 (t.take 2) (by simp; omega) w1
      have hfh := fits_hole w3
      rw [join_none] at hfh
      have e3 : stepTo n (a == 0) Pc.empty (83 :: t) = readP (t.drop 2) := by simp [stepTo, of, wholeTo, ow]
      have e4 : stepX n (a == 0) Pc.empty Ext.zero (83 :: t) = ({ Ext.zero with had := numTo (t.take 2) 2 } : Ext).compact (readP (t.drop 2)) := by simp [stepX, of, wholeX, ow]
      rw [e3, e4]
      clear e3 e4 ow o0
      have hd1 : (({ Ext.zero with had := numTo (t.take 2) 2 } : Ext).compact (readP (t.drop 2))).had = numTo (t.take 2) 2 := rfl
      refine ⟨hl, f1, hfh, ?_, by rw [hd1]; exact w4, fun e => absurd e hne, ⟨rfl, rfl⟩⟩
      show frameL ([83] ++ lastD (numTo (t.take 2) 2) 2 ++ (readP (t.drop 2)).text) = _
      rw [f2, e2, htk, hfr _ (by simp)]
      subst ha; simp

theorem logRun_inv (n : Nat) (log : Bs) (f : Nat) : ∀ a h x, LInv log a h x → (logRun n log f a h x).ok = true → LInv log (logRun n log f a h x).a (logRun n log f a h x).h (logRun n log f a h x).x := by
  induction f with
  | zero => intro a h x I _; exact I
  | succ f ih =>
    intro a h x I ho
    rw [logRun] at ho ⊢
    by_cases h0 : logSt n log a h = 0
    · rw [if_pos h0] at ho ⊢; exact I
    · rw [if_neg h0] at ho ⊢
      by_cases h1 : logSt n log a h = 1
      · rw [if_pos h1] at ho; cases ho
      · rw [if_neg h1] at ho ⊢
        exact ih _ _ _ (I.next h0 h1) ho
end Go.Proofs.YtalaldfgjgpacaaGreatDoor
