import Derived.Test.YtkeanpabacfdlaaGreatDoorQ10
namespace Go.Proofs.YtkeanpabacfdlaaGreatDoor
set_option linter.unusedVariables false
set_option linter.unusedSimpArgs false
open Go.RowKit
attribute [local go_sem ↓] Go.wp_at_zero Go.wp_at_succ

theorem evTok_eq (me n : Nat) (p p' : Pc) (l : List UInt8) (er : Int) (q : Pc) (e0 : er = evErr me n p l) (e2 : p' = if er = 0 then p.join q else p) : evTok me n p p' l = if er = 0 then (p.join q).digsTo n else [] := by
  unfold evTok
  rw [← e0, e2]
  by_cases h : er = 0
  · simp only [h, if_true]
  · simp only [h, if_false]

theorem none_of (gone : Bs) (h : gone = []) (s : Sl) (r i : Nat) : (!(gone == []) && ((s.text r i).take gone.length == gone)) = false := by subst h; rfl
theorem item_of (c it : Int) (hc0 : 0 ≤ c) (hc1 : c < 3) (hi0 : 0 ≤ it) (hi1 : it < 4) (s : Sl) (r i : Nat) (hg : s.good) (hf : s.filled = true) :
    (!([cartB c.toNat, itemB it.toNat] == ([] : Bs)) && ((s.text r i).take [cartB c.toNat, itemB it.toNat].length == [cartB c.toNat, itemB it.toNat])) = s.isOf c it := by
  rw [show [cartB c.toNat, itemB it.toNat].length = 2 from rfl, text_take2]
  obtain ⟨a1, a2, a3, a4, _, _⟩ := hg
  rw [Bool.eq_iff_iff]
  simp only [Sl.isOf, hf, Bool.true_and, Bool.and_eq_true, beq_iff_eq, Bool.not_eq_true', List.cons.injEq, and_true]
  constructor
  · rintro ⟨_, h1, h2⟩
    have e1 := cartB_inj h1 (by omega) (by omega)
    have e2 := itemB_inj h2 (by omega) (by omega)
    exact ⟨by omega, by omega⟩
  · rintro ⟨h1, h2⟩
    rw [h1, h2]; exact ⟨rfl, rfl, rfl⟩
def Sl.inCart (s : Sl) (c : Int) : Bool := s.filled && s.cart == c
theorem cart_of (c : Int) (hc0 : 0 ≤ c) (hc1 : c < 3) (s : Sl) (r i : Nat) (hg : s.good) (hf : s.filled = true) :
    (!([cartB c.toNat] == ([] : Bs)) && ((s.text r i).take [cartB c.toNat].length == [cartB c.toNat])) = s.inCart c := by
  rw [show [cartB c.toNat].length = 1 from rfl, text_take1]
  obtain ⟨a1, a2, a3, a4, _, _⟩ := hg
  rw [Bool.eq_iff_iff]
  simp only [Sl.inCart, hf, Bool.true_and, Bool.and_eq_true, beq_iff_eq, Bool.not_eq_true', List.cons.injEq, and_true]
  constructor
  · rintro ⟨_, h1⟩
    have e1 := cartB_inj h1 (by omega) (by omega)
    omega
  · intro h1
    rw [h1]; exact ⟨rfl, rfl⟩

theorem cartTo_at (p : Pc) (hp : p.ok) (c : Int) (k : Nat) : ∀ r i, r < 3 → i < 9 → p.cartTo c k r i = if (p r i).filled && (decide ((p r i).cart = c) && decide ((p r i).item < (k : Int))) then Sl.dot else Sl.zero := by
  induction k with
  | zero =>
    intro r i hr hi
    by_cases hf : (p r i).filled = true
    · have := (hp.good hr hi hf).i0
      rw [if_neg (by simp; intro _ _; omega)]; rfl
    · rw [if_neg (by simp [hf])]; rfl
  | succ k ih =>
    intro r i hr hi
    show joinSl (p.cartTo c k r i) (p.dotsOf c (k : Int) r i) = _
    rw [ih r i hr hi]
    unfold Pc.dotsOf
    by_cases h1 : ((p r i).filled && (decide ((p r i).cart = c) && decide ((p r i).item < (k : Int)))) = true
    · rw [if_pos h1]
      simp only [Bool.and_eq_true, decide_eq_true_eq] at h1
      have h2 : ((p r i).isOf c (k : Int)) = false := by simp [Sl.isOf]; intro _ _; omega
      have h3 : ((p r i).filled && (decide ((p r i).cart = c) && decide ((p r i).item < ((k + 1 : Nat) : Int)))) = true := by simp [h1.1, h1.2.1]; omega
      rw [h2, if_pos h3]; rfl
    · rw [if_neg h1]
      by_cases h2 : (p r i).isOf c (k : Int) = true
      · obtain ⟨f1, f2, f3⟩ := isOf_eq h2
        have h3 : ((p r i).filled && (decide ((p r i).cart = c) && decide ((p r i).item < ((k + 1 : Nat) : Int)))) = true := by simp [f1, f2, f3]; omega
        rw [if_pos h2, if_pos h3]; rfl
      · have h3 : ¬ ((p r i).filled && (decide ((p r i).cart = c) && decide ((p r i).item < ((k + 1 : Nat) : Int)))) = true := by
          simp only [Bool.and_eq_true, decide_eq_true_eq] at h1 ⊢
          simp only [Sl.isOf, Bool.and_eq_true, beq_iff_eq] at h2
          rintro ⟨f1, f2, f3⟩
          by_cases e : (p r i).item = (k : Int)
          · exact h2 ⟨f1, f2, e⟩
          · exact h1 ⟨f1, f2, by omega⟩
        rw [if_neg h2, if_neg h3]; rfl
theorem cart4_at (p : Pc) (hp : p.ok) (c : Int) : ∀ r i, r < 3 → i < 9 → p.cartTo c 4 r i = if (p r i).inCart c then Sl.dot else Sl.zero := by
  intro r i hr hi
  rw [cartTo_at p hp c 4 r i hr hi]
  have : ((p r i).filled && (decide ((p r i).cart = c) && decide ((p r i).item < ((4 : Nat) : Int)))) = (p r i).inCart c := by
    unfold Sl.inCart
    cases hf : (p r i).filled with
    | false => rfl
    | true =>
      have := (hp.good hr hi hf).i1
      have h4 : decide ((p r i).item < ((4 : Nat) : Int)) = true := by simp; omega
      rw [h4]; rw [Bool.eq_iff_iff]; simp
  rw [this]


set_option maxRecDepth 100000 in
set_option maxHeartbeats 1000000 in
theorem radd_yes (cb me n : Nat) (p : Pc) (x : Ext) (lt : Value) (s : ByteArray) (c it v : Int) (w : World) (hn : n ≤ 3) (hme : me < n) (hs : s.size ≤ maxLen) (hR : RefAt w cb me n p x lt) (hp : p.fine) (hh : p.noHole) (hx : x.small)
    (hc0 : 0 ≤ c) (hc1 : c < 3) (hi0 : 0 ≤ it) (hi1 : it < 4) (hv0 : -99 ≤ v) (hv1 : v ≤ 99) (er : Int) (tk : Bs) (p' : Pc) (x' : Ext) (e0 : er = evErr me n p s.data.toList) (e1 : tk = evTok me n p p' s.data.toList) (e2 : p' = evPut me n p Pc.empty s.data.toList c it v) (e3 : x' = evXp me n p Pc.empty x s.data.toList c it v) :
    Calls Tryz.prog 27 #[.pointer (some ⟨cb, 0, none⟩), .string s, .int .i64 c, .int .i64 it, .int .i64 v] w fun e w' => e = .returned (.tuple #[.string ⟨tk.toArray⟩, .int .i64 er]) ∧ RefStep cb me n p' x' lt w w' := by
  have ee2 : p' = if er = 0 then p.join ((Pc.empty).put me (p.count (me : Int)) ⟨true, true, c, it, v⟩) else p := by rw [e2, e0]; rfl
  have ee3 : x' = if er = 0 then x.next ((Pc.empty).put me (p.count (me : Int)) ⟨true, true, c, it, v⟩) else x := by rw [e3, e0]; rfl
  have HEv := hid (fun wx hx' => ev_any cb me n p x lt s [] [cartB c.toNat, itemB it.toNat] v wx hn hme hs hx' hp hh hx (by simp) (.inr rfl) hv0 hv1 (fun _ => false) (fun _ h => by cases h) (fun s r i _ _ => none_of [] rfl s r i) (Pc.empty) (fun r i _ _ => rfl) ⟨true, true, c, it, v⟩ rfl (fun _ => ⟨hc0, hc1, hi0, hi1, hv0, hv1⟩) (fun h => by cases h) rfl _ rfl er tk p' x' e0 (by rw [e1]; exact evTok_eq me n p p' _ er _ e0 ee2) ee2 ee3)
  have HRA := hid hR
  have HIC := hid (risCart_any c w)
  rw [show cartB3 c = true by simp [cartB3]; omega] at HIC
  have HII := hid (risItem_any it w)
  rw [show itemB4 it = true by simp [itemB4]; omega] at HII
  have HNm := hid (name_any c it w hc0 hc1 hi0 hi1)
  have d1 : decide (v < -99) = false := by simp; omega
  have d2 : decide (99 < v) = false := by simp; omega
  clear e0 e1 e2 e3 ee2 ee3 hR hp hh hx

  go_enter Tryz.func27, Tryz.ntmps27
  go_wp2_with fail
  refine HIC.out.mono ?_
  rintro e w1 ⟨rfl, hw1⟩
  subst w1
  go_wp2_with fail
  refine HII.out.mono ?_
  rintro e w1 ⟨rfl, hw1⟩
  subst w1
  go_wp2_with fail
  refine HNm.out.mono ?_
  rintro e w2 ⟨rfl, b2⟩
  go_wp2_with fail
  refine (HEv.out _ (HRA.out.on b2)).mono ?_
  rintro e w3 ⟨rfl, r3⟩
  go_wp2
  go_ret2
  exact ⟨rfl, r3.pre b2⟩

set_option maxRecDepth 100000 in
set_option maxHeartbeats 1000000 in
theorem rset_yes (cb me n : Nat) (p : Pc) (x : Ext) (lt : Value) (s : ByteArray) (c it v : Int) (w : World) (hn : n ≤ 3) (hme : me < n) (hs : s.size ≤ maxLen) (hR : RefAt w cb me n p x lt) (hp : p.fine) (hh : p.noHole) (hx : x.small)
    (hc0 : 0 ≤ c) (hc1 : c < 3) (hi0 : 0 ≤ it) (hi1 : it < 4) (hv0' : 0 ≤ v) (hv1 : v ≤ 99) (er : Int) (tk : Bs) (p' : Pc) (x' : Ext) (e0 : er = evErr me n p s.data.toList) (e1 : tk = evTok me n p p' s.data.toList) (e2 : p' = evPut me n p (p.dotsOf c it) s.data.toList c it v) (e3 : x' = evXp me n p (p.dotsOf c it) x s.data.toList c it v) :
    Calls Tryz.prog 29 #[.pointer (some ⟨cb, 0, none⟩), .string s, .int .i64 c, .int .i64 it, .int .i64 v] w fun e w' => e = .returned (.tuple #[.string ⟨tk.toArray⟩, .int .i64 er]) ∧ RefStep cb me n p' x' lt w w' := by
  have hv0 : -99 ≤ v := by omega
  have ee2 : p' = if er = 0 then p.join ((p.dotsOf c it).put me (p.count (me : Int)) ⟨true, true, c, it, v⟩) else p := by rw [e2, e0]; rfl
  have ee3 : x' = if er = 0 then x.next ((p.dotsOf c it).put me (p.count (me : Int)) ⟨true, true, c, it, v⟩) else x := by rw [e3, e0]; rfl
  have HEv := hid (fun wx hx' => ev_any cb me n p x lt s [cartB c.toNat, itemB it.toNat] [cartB c.toNat, itemB it.toNat] v wx hn hme hs hx' hp hh hx (by simp) (.inr rfl) hv0 hv1 (fun s => s.isOf c it) (fun _ h => (isOf_eq h).1) (fun s r i hg hf => item_of c it hc0 hc1 hi0 hi1 s r i hg hf) (p.dotsOf c it) (fun r i _ _ => rfl) ⟨true, true, c, it, v⟩ rfl (fun _ => ⟨hc0, hc1, hi0, hi1, hv0, hv1⟩) (fun h => by cases h) rfl _ rfl er tk p' x' e0 (by rw [e1]; exact evTok_eq me n p p' _ er _ e0 ee2) ee2 ee3)
  have HRA := hid hR
  have HIC := hid (risCart_any c w)
  rw [show cartB3 c = true by simp [cartB3]; omega] at HIC
  have HII := hid (risItem_any it w)
  rw [show itemB4 it = true by simp [itemB4]; omega] at HII
  have HNm := hid (name_any c it w hc0 hc1 hi0 hi1)
  have d1 : decide (v < 0) = false := by simp; omega
  have d2 : decide (99 < v) = false := by simp; omega
  clear e0 e1 e2 e3 ee2 ee3 hR hp hh hx

  go_enter Tryz.func29, Tryz.ntmps29
  go_wp2_with fail
  refine HIC.out.mono ?_
  rintro e w1 ⟨rfl, hw1⟩
  subst w1
  go_wp2_with fail
  refine HII.out.mono ?_
  rintro e w1 ⟨rfl, hw1⟩
  subst w1
  go_wp2_with fail
  refine HNm.out.mono ?_
  rintro e w2 ⟨rfl, b2⟩
  go_wp2_with fail
  refine (HEv.out _ (HRA.out.on b2)).mono ?_
  rintro e w3 ⟨rfl, r3⟩
  go_wp2
  go_ret2
  exact ⟨rfl, r3.pre b2⟩

/-- A slot of dots alone, known. -/
theorem dot_slot (s : Sl) (h : s.filled = false ∧ s.cart = 0 ∧ s.item = 0 ∧ s.value = 0) : ({ s with known := true } : Sl) = Sl.dot := by
  obtain ⟨a, b, c, d, e⟩ := s
  simp only at h
  obtain ⟨rfl, rfl, rfl, rfl⟩ := h
  rfl
theorem evTake_dot (me n : Nat) (p taken : Pc) (l : List UInt8) (h : evErr me n p l = 0 → (taken me (p.count (me : Int))).filled = false ∧ (taken me (p.count (me : Int))).cart = 0 ∧ (taken me (p.count (me : Int))).item = 0 ∧ (taken me (p.count (me : Int))).value = 0) :
    evTake me n p taken l = if evErr me n p l = 0 then p.join (taken.put me (p.count (me : Int)) Sl.dot) else p := by
  unfold evTake
  by_cases e : evErr me n p l = 0
  · rw [if_pos e, if_pos e, dot_slot _ (h e)]
  · rw [if_neg e, if_neg e]
theorem evXt_dot (me n : Nat) (p taken : Pc) (x : Ext) (l : List UInt8) (h : evErr me n p l = 0 → (taken me (p.count (me : Int))).filled = false ∧ (taken me (p.count (me : Int))).cart = 0 ∧ (taken me (p.count (me : Int))).item = 0 ∧ (taken me (p.count (me : Int))).value = 0) :
    evXt me n p taken x l = if evErr me n p l = 0 then x.next (taken.put me (p.count (me : Int)) Sl.dot) else x := by
  unfold evXt
  by_cases e : evErr me n p l = 0
  · rw [if_pos e, if_pos e, dot_slot _ (h e)]
  · rw [if_neg e, if_neg e]

set_option maxRecDepth 100000 in
set_option maxHeartbeats 1000000 in
theorem rremove_yes (cb me n : Nat) (p : Pc) (x : Ext) (lt : Value) (s : ByteArray) (c it : Int) (w : World) (hn : n ≤ 3) (hme : me < n) (hs : s.size ≤ maxLen) (hR : RefAt w cb me n p x lt) (hp : p.fine) (hh : p.noHole) (hx : x.small)
    (hc0 : 0 ≤ c) (hc1 : c < 3) (hi0 : 0 ≤ it) (hi1 : it < 4) (er : Int) (tk : Bs) (p' : Pc) (x' : Ext) (e0 : er = evErr me n p s.data.toList) (e1 : tk = evTok me n p p' s.data.toList) (e2 : p' = evTake me n p (p.dotsOf c it) s.data.toList) (e3 : x' = evXt me n p (p.dotsOf c it) x s.data.toList) :
    Calls Tryz.prog 31 #[.pointer (some ⟨cb, 0, none⟩), .string s, .int .i64 c, .int .i64 it] w fun e w' => e = .returned (.tuple #[.string ⟨tk.toArray⟩, .int .i64 er]) ∧ RefStep cb me n p' x' lt w w' := by
  have hbar : evErr me n p s.data.toList = 0 → ((p.dotsOf c it) me (p.count (me : Int))).filled = false ∧ ((p.dotsOf c it) me (p.count (me : Int))).cart = 0 ∧ ((p.dotsOf c it) me (p.count (me : Int))).item = 0 ∧ ((p.dotsOf c it) me (p.count (me : Int))).value = 0 := fun hz => by
    have hat : (p.dotsOf c it) me (p.count (me : Int)) = if (p me (p.count (me : Int))).isOf c it then Sl.dot else Sl.zero := (fun r i _ _ => rfl) me (p.count (me : Int)) (by omega) (evErr_lt hz)
    rw [hat]
    split <;> exact ⟨rfl, rfl, rfl, rfl⟩
  have ee2 : p' = if er = 0 then p.join ((p.dotsOf c it).put me (p.count (me : Int)) Sl.dot) else p := by rw [e2, e0]; exact evTake_dot me n p _ _ hbar
  have ee3 : x' = if er = 0 then x.next ((p.dotsOf c it).put me (p.count (me : Int)) Sl.dot) else x := by rw [e3, e0]; exact evXt_dot me n p _ x _ hbar
  have HEv := hid (fun wx hx' => ev_any cb me n p x lt s [cartB c.toNat, itemB it.toNat] [] 0 wx hn hme hs hx' hp hh hx (by simp) (.inl rfl) (by omega) (by omega) (fun s => s.isOf c it) (fun _ h => (isOf_eq h).1) (fun s r i hg hf => item_of c it hc0 hc1 hi0 hi1 s r i hg hf) (p.dotsOf c it) (fun r i _ _ => rfl) Sl.dot rfl (fun h => by cases h) (fun _ => ⟨rfl, rfl, rfl⟩) rfl _ rfl er tk p' x' e0 (by rw [e1]; exact evTok_eq me n p p' _ er _ e0 ee2) ee2 ee3)
  have HRA := hid hR
  have HIC := hid (risCart_any c w)
  rw [show cartB3 c = true by simp [cartB3]; omega] at HIC
  have HII := hid (risItem_any it w)
  rw [show itemB4 it = true by simp [itemB4]; omega] at HII
  have HNm := hid (name_any c it w hc0 hc1 hi0 hi1)
  clear e0 e1 e2 e3 ee2 ee3 hR hp hh hx hbar

  go_enter Tryz.func31, Tryz.ntmps31
  go_wp2_with fail
  refine HIC.out.mono ?_
  rintro e w1 ⟨rfl, hw1⟩
  subst w1
  go_wp2_with fail
  refine HII.out.mono ?_
  rintro e w1 ⟨rfl, hw1⟩
  subst w1
  go_wp2_with fail
  refine HNm.out.mono ?_
  rintro e w2 ⟨rfl, b2⟩
  go_wp2_with fail
  refine (HEv.out _ (HRA.out.on b2)).mono ?_
  rintro e w3 ⟨rfl, r3⟩
  go_wp2
  go_ret2
  exact ⟨rfl, r3.pre b2⟩

set_option maxRecDepth 100000 in
set_option maxHeartbeats 1000000 in
theorem rclear_yes (cb me n : Nat) (p : Pc) (x : Ext) (lt : Value) (s : ByteArray) (c : Int) (w : World) (hn : n ≤ 3) (hme : me < n) (hs : s.size ≤ maxLen) (hR : RefAt w cb me n p x lt) (hp : p.fine) (hh : p.noHole) (hx : x.small)
    (hc0 : 0 ≤ c) (hc1 : c < 3) (er : Int) (tk : Bs) (p' : Pc) (x' : Ext) (e0 : er = evErr me n p s.data.toList) (e1 : tk = evTok me n p p' s.data.toList) (e2 : p' = evTake me n p (p.cartTo c 4) s.data.toList) (e3 : x' = evXt me n p (p.cartTo c 4) x s.data.toList) :
    Calls Tryz.prog 33 #[.pointer (some ⟨cb, 0, none⟩), .string s, .int .i64 c] w fun e w' => e = .returned (.tuple #[.string ⟨tk.toArray⟩, .int .i64 er]) ∧ RefStep cb me n p' x' lt w w' := by
  have hbar : evErr me n p s.data.toList = 0 → ((p.cartTo c 4) me (p.count (me : Int))).filled = false ∧ ((p.cartTo c 4) me (p.count (me : Int))).cart = 0 ∧ ((p.cartTo c 4) me (p.count (me : Int))).item = 0 ∧ ((p.cartTo c 4) me (p.count (me : Int))).value = 0 := fun hz => by
    have hat : (p.cartTo c 4) me (p.count (me : Int)) = if (p me (p.count (me : Int))).inCart c then Sl.dot else Sl.zero := (cart4_at p hp.ok c) me (p.count (me : Int)) (by omega) (evErr_lt hz)
    rw [hat]
    split <;> exact ⟨rfl, rfl, rfl, rfl⟩
  have ee2 : p' = if er = 0 then p.join ((p.cartTo c 4).put me (p.count (me : Int)) Sl.dot) else p := by rw [e2, e0]; exact evTake_dot me n p _ _ hbar
  have ee3 : x' = if er = 0 then x.next ((p.cartTo c 4).put me (p.count (me : Int)) Sl.dot) else x := by rw [e3, e0]; exact evXt_dot me n p _ x _ hbar
  have HEv := hid (fun wx hx' => ev_any cb me n p x lt s [cartB c.toNat] [] 0 wx hn hme hs hx' hp hh hx (by simp) (.inl rfl) (by omega) (by omega) (fun s => s.inCart c) (fun s h => by simp only [Sl.inCart, Bool.and_eq_true] at h; exact h.1) (fun s r i hg hf => cart_of c hc0 hc1 s r i hg hf) (p.cartTo c 4) (cart4_at p hp.ok c) Sl.dot rfl (fun h => by cases h) (fun _ => ⟨rfl, rfl, rfl⟩) rfl _ rfl er tk p' x' e0 (by rw [e1]; exact evTok_eq me n p p' _ er _ e0 ee2) ee2 ee3)
  have HRA := hid hR
  have HIC := hid (risCart_any c w)
  rw [show cartB3 c = true by simp [cartB3]; omega] at HIC
  have HNm := hid (name_any c 0 w hc0 hc1 (by omega) (by omega))
  clear e0 e1 e2 e3 ee2 ee3 hR hp hh hx hbar

  go_enter Tryz.func33, Tryz.ntmps33
  go_wp2_with fail
  refine HIC.out.mono ?_
  rintro e w1 ⟨rfl, hw1⟩
  subst w1
  go_wp2_with fail
  refine HNm.out.mono ?_
  rintro e w2 ⟨rfl, b2⟩
  have HX : Hid ((ByteArray.mk #[cartB c.toNat, itemB 0]).extract 0 1 = ByteArray.mk #[cartB c.toNat]) := by show _ = _; exact bs_extract [cartB c.toNat, itemB 0] 0 1
  have HEv2 := HEv.out _ (HRA.out.on b2)
  rw [show ByteArray.mk [cartB c.toNat].toArray = ByteArray.mk #[cartB c.toNat] from rfl, ← HX.out] at HEv2
  have HEv3 := hid HEv2
  clear HEv2
  go_wp2_with fail
  refine HEv3.out.mono ?_
  rintro e w3 ⟨rfl, r3⟩
  go_wp2
  go_ret2
  exact ⟨rfl, r3.pre b2⟩

end Go.Proofs.YtkeanpabacfdlaaGreatDoor
