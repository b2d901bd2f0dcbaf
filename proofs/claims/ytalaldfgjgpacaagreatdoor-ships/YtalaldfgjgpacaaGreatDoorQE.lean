import Derived.Test.YtalaldfgjgpacaaGreatDoorQD
import Derived.Test.YtalaldfgjgpacaaGreatDoorWE
namespace Go.Proofs.YtalaldfgjgpacaaGreatDoor
set_option linter.unusedVariables false
set_option linter.unusedSimpArgs false
open Go.RowKit
attribute [local go_sem ↓] Go.wp_at_zero Go.wp_at_succ

/-- What each has acknowledged: the block ahead of the replica's. -/
def acksA (n : Nat) (f : Nat → Nat) : Array Value := ((List.range n).map fun r => Value.int .i64 (f r)).toArray

/-- What the document's replica has beside: the deltas that it remembers, and what is acknowledged. -/
structure Aside (w : World) (cb n : Nat) (ac : Value) (x : Ext) (ln : Nat) (ls : List Value) : Prop where
  ln : ln = x.kept
  lats : Lats w (x.late.take 4).reverse ls
  pos : 1 ≤ cb
  ac : ac = .slice (some ⟨cb - 1, 0, none⟩) n n
  ack : w.heap[cb - 1]? = some (.cells (acksA n x.ack) 3)

theorem Aside.le {w : World} {cb n : Nat} {ac : Value} {x : Ext} {ln : Nat} {ls : List Value} (h : Aside w cb n ac x ln ls) : ln ≤ 4 := by
  rw [h.ln]; exact Nat.min_le_left _ _
theorem Aside.kept {w w' : World} {cb n : Nat} {ac : Value} {x : Ext} {ln : Nat} {ls : List Value} (h : Aside w cb n ac x ln ls) (hs : ∀ (g : Nat) (C : Array Value), w.heap[g]? = some (.cells C 9) → w'.heap[g]? = w.heap[g]?) (ha : w'.heap[cb - 1]? = w.heap[cb - 1]?) : Aside w' cb n ac x ln ls :=
  ⟨h.ln, h.lats.kept hs, h.pos, h.ac, ha.trans h.ack⟩
theorem Aside.on {w w' : World} {cb n : Nat} {ac : Value} {x : Ext} {ln : Nat} {ls : List Value} (h : Aside w cb n ac x ln ls) (hb : Blw w w') : Aside w' cb n ac x ln ls :=
  h.kept (fun g _ hC => hb.bk g (lt_of_blk hC)) (hb.bk _ (lt_of_blk h.ack))
theorem Aside.sc {w : World} {cb n : Nat} {ac : Value} {x : Ext} {ln : Nat} {ls : List Value} (h : Aside w cb n ac x ln ls) {b : Nat} {C : Array Value} {t : TypeId} (hb : w.heap[b]? = some (.cells C t)) (ht : t ≠ 9) (ht2 : t ≠ 3) (o : Nat) (u : Value) : Aside (w.setCell ⟨b, o, none⟩ u) cb n ac x ln ls :=
  ⟨h.ln, h.lats.sc hb ht o u, h.pos, h.ac, (Below.heap_setCell w ⟨b, o, none⟩ u (cb - 1) (fun e => by
    have ha := h.ack
    simp at e; rw [e, hb] at ha; simp only [Option.some.injEq, Obj.cells.injEq] at ha; exact ht2 ha.2.1)).trans h.ack⟩
/-- The same beside, where had and log differ. -/
theorem Aside.same {w : World} {cb n : Nat} {ac : Value} {x y : Ext} {ln : Nat} {ls : List Value} (h : Aside w cb n ac x ln ls) (h1 : y.late = x.late) (h2 : y.ack = x.ack) : Aside w cb n ac y ln ls :=
  ⟨by rw [h.ln, Ext.kept, Ext.kept, h1], by rw [h1]; exact h.lats, h.pos, h.ac, by rw [h2]; exact h.ack⟩
/-- One delta more. -/
theorem Aside.next {w w' : World} {cb n : Nat} {lt ac : Value} {x : Ext} {ln : Nat} {ls ls' : List Value} (h : Aside w cb n ac x ln ls) (hL : LateAt w lt ln ls) (q : Pc) (hm : Lats w' (if ln = 4 then ((x.late.take 4).reverse ++ [q]).drop 1 else (x.late.take 4).reverse ++ [q]) ls')
    (hb : Bs2 (fun k => k = cb ∨ lt.ownBlock = some k) w w') : Aside w' cb n ac (x.next q) (if ln = 4 then 4 else ln + 1) ls' := by
  have hk := h.ln
  have hpos := h.pos
  refine ⟨?_, ?_, h.pos, h.ac, ?_⟩
  · simp only [Ext.kept, Ext.next, List.length_cons] at *
    split <;> omega
  · have e : ((x.next q).late.take 4).reverse = if ln = 4 then ((x.late.take 4).reverse ++ [q]).drop 1 else (x.late.take 4).reverse ++ [q] := by
      show ((q :: x.late).take 4).reverse = _
      unfold Ext.kept at hk
      by_cases h4 : ln = 4
      · rw [if_pos h4, List.take_succ_cons, List.reverse_cons]
        have hl : 4 ≤ x.late.length := by omega
        match x.late, hl with
        | a :: b :: c :: d :: r, _ => rfl
      · rw [if_neg h4, List.take_succ_cons, List.reverse_cons, List.take_of_length_le (show x.late.length ≤ 3 by omega), List.take_of_length_le (show x.late.length ≤ 4 by omega)]
    rw [e]; exact hm
  · have ha := h.ack
    refine (hb.block _ (lt_of_blk ha) ?_).trans ha
    rintro (e | e)
    · omega
    · obtain ⟨_, C', hC⟩ := hL.lt e
      rw [hC] at ha
      simp only [Option.some.injEq, Obj.cells.injEq] at ha
      exact absurd ha.2.1 (by decide)

/-- The document's replica lies there, and holds p. -/
structure RefAt (w : World) (cb me n : Nat) (p : Pc) (x : Ext) (lt : Value) : Prop where
  h : ∃ a b ac D E ln ls, w.heap[cb]? = some (.cells (refArr me n a b x.had lt ac x.log) 123) ∧ Ls w 0 a D ∧ Ls w 0 b E ∧ LateAt w lt ln ls ∧ Aside w cb n ac x ln ls ∧ RelP p D E

structure RefStep (cb me n : Nat) (p' : Pc) (x' : Ext) (lt : Value) (w w' : World) : Prop where
  h : ∃ lt', RefAt w' cb me n p' x' lt' ∧ (lt'.ownBlock = lt.ownBlock ∨ ∃ g, lt'.ownBlock = some g ∧ w.heap.size ≤ g)
  bs : Bs2 (fun k => k = cb ∨ lt.ownBlock = some k) w w'

theorem RefAt.on {w w' : World} {cb me n : Nat} {p : Pc} {x : Ext} {lt : Value} (h : RefAt w cb me n p x lt) (hb : Blw w w') : RefAt w' cb me n p x lt := by
  obtain ⟨a, b, ac, D, E, ln, ls, h1, h2, h3, h4, h5, h6⟩ := h.h
  exact ⟨a, b, ac, D, E, ln, ls, hb.bq h1, h2.on hb, h3.on hb, h4.on hb, h5.on hb, h6⟩
theorem RefStep.same {cb me n : Nat} {p : Pc} {x : Ext} {lt : Value} {w w' : World} (h : RefAt w cb me n p x lt) (hb : Blw w w') : RefStep cb me n p x lt w w' :=
  ⟨⟨lt, h.on hb, .inl rfl⟩, hb.b2 _⟩
theorem RefStep.pre {cb me n : Nat} {p : Pc} {x : Ext} {lt : Value} {w w1 w' : World} (h : RefStep cb me n p x lt w1 w') (hb : Blw w w1) : RefStep cb me n p x lt w w' := by
  obtain ⟨lt', h1, h2⟩ := h.h
  exact ⟨⟨lt', h1, h2.imp id (fun ⟨g, e, k⟩ => ⟨g, e, Nat.le_trans hb.sz k⟩)⟩, (hb.b2 _).tr (h.bs.weak (fun i hi => .inl hi))⟩

theorem text_take2 (s : Sl) (r i : Nat) : (s.text r i).take 2 = [cartB s.cart.toNat, itemB s.item.toNat] := rfl
theorem text_take1 (s : Sl) (r i : Nat) : (s.text r i).take 1 = [cartB s.cart.toNat] := rfl

/-- An event at the document's replica. -/
theorem ev_any (cb me n : Nat) (p : Pc) (x : Ext) (lt : Value) (s : ByteArray) (gone made : Bs) (v : Int) (w : World) (hn : n ≤ 3) (hme : me < n) (hs : s.size ≤ maxLen) (hR : RefAt w cb me n p x lt) (hp : p.fine) (hh : p.noHole) (hx : x.small)
    (hgl : gone.length ≤ 2) (hml : made = [] ∨ made.length = 2) (hv0 : -99 ≤ v) (hv1 : v ≤ 99) (Tq : Sl → Bool) (hTq : ∀ s, Tq s = true → s.filled = true)
    (hTT : ∀ (s : Sl) (r i : Nat), s.good → s.filled = true → (!(gone == []) && ((s.text r i).take gone.length == gone)) = Tq s)
    (taken : Pc) (htk : ∀ r i, r < 3 → i < 9 → taken r i = if Tq (p r i) then Sl.dot else Sl.zero) (sl : Sl) (hsl : sl.known = true) (hslg : sl.filled = true → sl.good) (hslc : sl.filled = false → sl.cart = 0 ∧ sl.item = 0 ∧ sl.value = 0)
    (hmade : (if sl.filled then [sl.text me (p.count (me : Int) + 1)] else []) = if made = [] then [] else [made ++ dotT me (p.count (me : Int)) ++ valL v])
    (q : Pc) (hq : q = taken.put me (p.count (me : Int)) sl) (er : Int) (tk : Bs) (p' : Pc) (x' : Ext) (e0 : er = evErr me n p s.data.toList) (e1 : tk = if er = 0 then (p.join q).digsTo n else []) (e2 : p' = if er = 0 then p.join q else p) (e3 : x' = if er = 0 then x.next q else x) :
    Calls Tryz.prog 93 #[.pointer (some ⟨cb, 0, none⟩), .string s, .string ⟨gone.toArray⟩, .string ⟨made.toArray⟩, .int .i64 v] w fun e w' => e = .returned (.tuple #[.string ⟨tk.toArray⟩, .int .i64 er]) ∧ RefStep cb me n p' x' lt w w' := by
  obtain ⟨a, b, ac, D, E, ln, ls, h1, h2, h3, h4, h5, h6⟩ := hR.h
  by_cases hE : evErr me n p s.data.toList = 0
  · rw [hE] at e0
    rw [if_pos e0] at e1 e2 e3
    have hk9 := evErr_lt hE
    have hnk : (p me (p.count (me : Int))).known = false := by rw [hh.at (by omega) hk9]; simp
    obtain ⟨r1, r2, r3⟩ := rel_delta h6 hp me (p.count (me : Int)) (by omega) hk9 hnk Tq hTq (fun y => !(gone == []) && (y.take gone.length == gone)) (fun r i hr hi hf => hTT _ _ _ (hp.ok.good hr hi hf) hf) taken htk sl hsl hslg hslc
    rw [← hq] at r1 r2 r3
    have := event_yes cb me n a b x.had ln lt ac x.log D E ls p q s gone made v w hn hme hs h1 h2 h3 h4 h5.le hx.h hx.l h6 hp hE (fun y => !(gone == []) && (y.take gone.length == gone)) (fun y _ => rfl) hgl hml hv0 hv1 (p.count (me : Int)) rfl hk9 r2 _ hmade r1 _ h5.lats _ rfl (x.had + 1) (if ln = 4 then 4 else ln + 1) (x.log ++ frameL ([68] ++ q.text)) _ _ rfl rfl rfl rfl rfl tk e1
    rw [e0]
    refine this.mono ?_
    rintro e w' ⟨he, hr⟩
    obtain ⟨u, v', lt', ls', i1, i2, i3, i4, i5⟩ := hr.at_
    refine ⟨he, ⟨lt', ?_, i5⟩, hr.bs⟩
    refine ⟨u, v', ac, _, _, _, ls', ?_, i2, i3, i4.1, ?_, ?_⟩
    · rw [e3]; exact i1
    · rw [e3]; exact h5.next h4 q i4.2 hr.bs
    · rw [e2]; exact rel_join h6 r1 hp r2
  · have hne : er ≠ 0 := by rw [e0]; exact hE
    rw [if_neg hne] at e1 e2 e3
    have := event_no cb me n a b x.had lt ac x.log D E p s gone made v w hn hs h1 (h6.pcAt hp.ok h2 h3) (h6.known hp.ok) hE
    rw [← e0] at this
    subst e1 e2 e3
    refine this.mono ?_
    rintro e w' ⟨he, rfl⟩
    exact ⟨he, RefStep.same hR (Blw.rfl _)⟩

set_option maxHeartbeats 400000 in
theorem risCart_any (c : Int) (w : World) : Calls Tryz.prog 90 #[.int .i64 c] w fun e w' => e = .returned (.bool (cartB3 c)) ∧ w' = w := by
  by_cases h1 : 0 ≤ c
  · have d1 : decide (0 ≤ c) = true := by simpa using h1
    by_cases h2 : c < 3
    · have d2 : decide (c < 3) = true := by simpa using h2
      go_enter Tryz.func90, Tryz.ntmps90
      go_wp2
      go_ret
      simp [cartB3, h1, h2]
    · have d2 : decide (c < 3) = false := by simpa using h2
      go_enter Tryz.func90, Tryz.ntmps90
      go_wp2
      go_ret
      simp [cartB3, h1, h2]
  · have d1 : decide (0 ≤ c) = false := by simpa using h1
    go_enter Tryz.func90, Tryz.ntmps90
    go_wp2
    go_ret
    simp [cartB3, h1]; omega
set_option maxHeartbeats 400000 in
theorem risItem_any (c : Int) (w : World) : Calls Tryz.prog 91 #[.int .i64 c] w fun e w' => e = .returned (.bool (itemB4 c)) ∧ w' = w := by
  by_cases h1 : 0 ≤ c
  · have d1 : decide (0 ≤ c) = true := by simpa using h1
    by_cases h2 : c < 4
    · have d2 : decide (c < 4) = true := by simpa using h2
      go_enter Tryz.func91, Tryz.ntmps91
      go_wp2
      go_ret
      simp [itemB4, h1, h2]
    · have d2 : decide (c < 4) = false := by simpa using h2
      go_enter Tryz.func91, Tryz.ntmps91
      go_wp2
      go_ret
      simp [itemB4, h1, h2]
  · have d1 : decide (0 ≤ c) = false := by simpa using h1
    go_enter Tryz.func91, Tryz.ntmps91
    go_wp2
    go_ret
    simp [itemB4, h1]; omega

theorem conv2 (m n : Int) (w : World) : (convert 131 9 (.slice (some ⟨w.heap.size, 0, none⟩) 2 2)).run Tryz.prog (w.alloc (.cells #[.int .u8 m, .int .u8 n] 5)) = .ok (.string ⟨#[UInt8.ofNat m.toNat, UInt8.ofNat n.toNat]⟩) (w.alloc (.cells #[.int .u8 m, .int .u8 n] 5)) := by
  rw [run_convert_bytes_string _ 131 9 5 _ _ _ Tryz.underlying131 Tryz.underlying5 Tryz.underlying9]
  rw [run_bytesToString _ _ _ _ [m, n]]
  · rfl
  · have := run_loadCells_list (P := Tryz.prog) (w.alloc (.cells #[.int .u8 m, .int .u8 n] 5)) ⟨w.heap.size, 0, none⟩ [.int .u8 m, .int .u8 n] (fun j v hv => by
      match j, hv with
      | 0, hv => simp at hv; subst hv; simp [Addr.add]
      | 1, hv => simp at hv; subst hv; simp [Addr.add])
    simpa using this

set_option maxRecDepth 100000 in
set_option maxHeartbeats 1000000 in
theorem name_any (c it : Int) (w : World) (hc0 : 0 ≤ c) (hc1 : c < 3) (hi0 : 0 ≤ it) (hi1 : it < 4) :
    Calls Tryz.prog 92 #[.int .i64 c, .int .i64 it] w fun e w' => e = .returned (.string ⟨#[cartB c.toNat, itemB it.toNat]⟩) ∧ Blw w w' := by
  have hcv := conv2 (97 + c) (65 + it)
  have e1 : UInt8.ofNat (97 + c).toNat = cartB c.toNat := by unfold cartB; congr 1; omega
  have e2 : UInt8.ofNat (65 + it).toNat = itemB it.toNat := by unfold itemB; congr 1; omega
  rw [e1, e2] at hcv
  generalize cartB c.toNat = x at *
  generalize itemB it.toNat = y at *
  clear e1 e2
  go_enter Tryz.func92, Tryz.ntmps92
  go_wp2
  go_ret
  exact ⟨rfl, (Blw.rfl _).al _⟩
end Go.Proofs.YtalaldfgjgpacaaGreatDoor

namespace Go.Proofs.YtalaldfgjgpacaaGreatDoor
set_option linter.unusedVariables false
set_option linter.unusedSimpArgs false
open Go.RowKit
attribute [local go_sem ↓] Go.wp_at_zero Go.wp_at_succ

theorem evTok_eq (me n : Nat) (p p' : Pc) (l : List UInt8) (er : Int) (q : Pc) (e0 : er = evErr me n p l) (e2 : p' = if er = 0 then p.join q else p) : evTok me n p p' l = if er = 0 then (p.join q).digsTo n else [] := by
  unfold evTok
  rw [← e0, e2]
  by_cases h : er = 0
  · simp only [h, if_true]
  · simp only [h, if_false]

theorem none_of (gone : Bs) (h : gone = []) (s : Sl) (r i : Nat) : (!(gone == []) && ((s.text r i).take gone.length == gone)) = false := by subst h; rfl
theorem item_of (c it : Int) (hc0 : 0 ≤ c) (hc1 : c < 3) (hi0 : 0 ≤ it) (hi1 : it < 4) (s : Sl) (r i : Nat) (hg : s.good) (hf : s.filled = true) :
    (!([cartB c.toNat, itemB it.toNat] == ([] : Bs)) && ((s.text r i).take [cartB c.toNat, itemB it.toNat].length == [cartB c.toNat, itemB it.toNat])) = s.isOf c it := by
  rw [show [cartB c.toNat, itemB it.toNat].length = 2 from rfl, text_take2]
  obtain ⟨a1, a2, a3, a4, _, _⟩ := hg
  rw [Bool.eq_iff_iff]
  simp only [Sl.isOf, hf, Bool.true_and, Bool.and_eq_true, beq_iff_eq, Bool.not_eq_true', List.cons.injEq, and_true]
  constructor
  · rintro ⟨_, h1, h2⟩
    have e1 := cartB_inj h1 (by omega) (by omega)
    have e2 := itemB_inj h2 (by omega) (by omega)
    exact ⟨by omega, by omega⟩
  · rintro ⟨h1, h2⟩
    rw [h1, h2]; exact ⟨rfl, rfl, rfl⟩
def Sl.inCart (s : Sl) (c : Int) : Bool := s.filled && s.cart == c
theorem cart_of (c : Int) (hc0 : 0 ≤ c) (hc1 : c < 3) (s : Sl) (r i : Nat) (hg : s.good) (hf : s.filled = true) :
    (!([cartB c.toNat] == ([] : Bs)) && ((s.text r i).take [cartB c.toNat].length == [cartB c.toNat])) = s.inCart c := by
  rw [show [cartB c.toNat].length = 1 from rfl, text_take1]
  obtain ⟨a1, a2, a3, a4, _, _⟩ := hg
  rw [Bool.eq_iff_iff]
  simp only [Sl.inCart, hf, Bool.true_and, Bool.and_eq_true, beq_iff_eq, Bool.not_eq_true', List.cons.injEq, and_true]
  constructor
  · rintro ⟨_, h1⟩
    have e1 := cartB_inj h1 (by omega) (by omega)
    omega
  · intro h1
    rw [h1]; exact ⟨rfl, rfl⟩

theorem cartTo_at (p : Pc) (hp : p.ok) (c : Int) (k : Nat) : ∀ r i, r < 3 → i < 9 → p.cartTo c k r i = if (p r i).filled && (decide ((p r i).cart = c) && decide ((p r i).item < (k : Int))) then Sl.dot else Sl.zero := by
  induction k with
  | zero =>
    intro r i hr hi
    by_cases hf : (p r i).filled = true
    · have := (hp.good hr hi hf).i0
      rw [if_neg (by simp; intro _ _; omega)]; rfl
    · rw [if_neg (by simp [hf])]; rfl
  | succ k ih =>
    intro r i hr hi
    show joinSl (p.cartTo c k r i) (p.dotsOf c (k : Int) r i) = _
    rw [ih r i hr hi]
    unfold Pc.dotsOf
    by_cases h1 : ((p r i).filled && (decide ((p r i).cart = c) && decide ((p r i).item < (k : Int)))) = true
    · rw [if_pos h1]
      simp only [Bool.and_eq_true, decide_eq_true_eq] at h1
      have h2 : ((p r i).isOf c (k : Int)) = false := by simp [Sl.isOf]; intro _ _; omega
      have h3 : ((p r i).filled && (decide ((p r i).cart = c) && decide ((p r i).item < ((k + 1 : Nat) : Int)))) = true := by simp [h1.1, h1.2.1]; omega
      rw [h2, if_pos h3]; rfl
    · rw [if_neg h1]
      by_cases h2 : (p r i).isOf c (k : Int) = true
      · obtain ⟨f1, f2, f3⟩ := isOf_eq h2
        have h3 : ((p r i).filled && (decide ((p r i).cart = c) && decide ((p r i).item < ((k + 1 : Nat) : Int)))) = true := by simp [f1, f2, f3]; omega
        rw [if_pos h2, if_pos h3]; rfl
      · have h3 : ¬ ((p r i).filled && (decide ((p r i).cart = c) && decide ((p r i).item < ((k + 1 : Nat) : Int)))) = true := by
          simp only [Bool.and_eq_true, decide_eq_true_eq] at h1 ⊢
          simp only [Sl.isOf, Bool.and_eq_true, beq_iff_eq] at h2
          rintro ⟨f1, f2, f3⟩
          by_cases e : (p r i).item = (k : Int)
          · exact h2 ⟨f1, f2, e⟩
          · exact h1 ⟨f1, f2, by omega⟩
        rw [if_neg h2, if_neg h3]; rfl
theorem cart4_at (p : Pc) (hp : p.ok) (c : Int) : ∀ r i, r < 3 → i < 9 → p.cartTo c 4 r i = if (p r i).inCart c then Sl.dot else Sl.zero := by
  intro r i hr hi
  rw [cartTo_at p hp c 4 r i hr hi]
  have : ((p r i).filled && (decide ((p r i).cart = c) && decide ((p r i).item < ((4 : Nat) : Int)))) = (p r i).inCart c := by
    unfold Sl.inCart
    cases hf : (p r i).filled with
    | false => rfl
    | true =>
      have := (hp.good hr hi hf).i1
      have h4 : decide ((p r i).item < ((4 : Nat) : Int)) = true := by simp; omega
      rw [h4]; rw [Bool.eq_iff_iff]; simp
  rw [this]


set_option maxRecDepth 100000 in
set_option maxHeartbeats 1000000 in
theorem radd_yes (cb me n : Nat) (p : Pc) (x : Ext) (lt : Value) (s : ByteArray) (c it v : Int) (w : World) (hn : n ≤ 3) (hme : me < n) (hs : s.size ≤ maxLen) (hR : RefAt w cb me n p x lt) (hp : p.fine) (hh : p.noHole) (hx : x.small)
    (hc0 : 0 ≤ c) (hc1 : c < 3) (hi0 : 0 ≤ it) (hi1 : it < 4) (hv0 : -99 ≤ v) (hv1 : v ≤ 99) (er : Int) (tk : Bs) (p' : Pc) (x' : Ext) (e0 : er = evErr me n p s.data.toList) (e1 : tk = evTok me n p p' s.data.toList) (e2 : p' = evPut me n p Pc.empty s.data.toList c it v) (e3 : x' = evXp me n p Pc.empty x s.data.toList c it v) :
    Calls Tryz.prog 42 #[.pointer (some ⟨cb, 0, none⟩), .string s, .int .i64 c, .int .i64 it, .int .i64 v] w fun e w' => e = .returned (.tuple #[.string ⟨tk.toArray⟩, .int .i64 er]) ∧ RefStep cb me n p' x' lt w w' := by
  have ee2 : p' = if er = 0 then p.join ((Pc.empty).put me (p.count (me : Int)) ⟨true, true, c, it, v⟩) else p := by rw [e2, e0]; rfl
  have ee3 : x' = if er = 0 then x.next ((Pc.empty).put me (p.count (me : Int)) ⟨true, true, c, it, v⟩) else x := by rw [e3, e0]; rfl
  have HEv := hid (fun wx hx' => ev_any cb me n p x lt s [] [cartB c.toNat, itemB it.toNat] v wx hn hme hs hx' hp hh hx (by simp) (.inr rfl) hv0 hv1 (fun _ => false) (fun _ h => by cases h) (fun s r i _ _ => none_of [] rfl s r i) (Pc.empty) (fun r i _ _ => rfl) ⟨true, true, c, it, v⟩ rfl (fun _ => ⟨hc0, hc1, hi0, hi1, hv0, hv1⟩) (fun h => by cases h) rfl _ rfl er tk p' x' e0 (by rw [e1]; exact evTok_eq me n p p' _ er _ e0 ee2) ee2 ee3)
  have HRA := hid hR
  have HIC := hid (risCart_any c w)
  rw [show cartB3 c = true by simp [cartB3]; omega] at HIC
  have HII := hid (risItem_any it w)
  rw [show itemB4 it = true by simp [itemB4]; omega] at HII
  have HNm := hid (name_any c it w hc0 hc1 hi0 hi1)
  have d1 : decide (v < -99) = false := by simp; omega
  have d2 : decide (99 < v) = false := by simp; omega
  clear e0 e1 e2 e3 ee2 ee3 hR hp hh hx

  go_enter Tryz.func42, Tryz.ntmps42
  go_wp2_with fail
  refine HIC.out.mono ?_
  rintro e w1 ⟨rfl, hw1⟩
  subst w1
  go_wp2_with fail
  refine HII.out.mono ?_
  rintro e w1 ⟨rfl, hw1⟩
  subst w1
  go_wp2_with fail
  refine HNm.out.mono ?_
  rintro e w2 ⟨rfl, b2⟩
  go_wp2_with fail
  refine (HEv.out _ (HRA.out.on b2)).mono ?_
  rintro e w3 ⟨rfl, r3⟩
  go_wp2
  go_ret2
  exact ⟨rfl, r3.pre b2⟩

set_option maxRecDepth 100000 in
set_option maxHeartbeats 1000000 in
theorem rset_yes (cb me n : Nat) (p : Pc) (x : Ext) (lt : Value) (s : ByteArray) (c it v : Int) (w : World) (hn : n ≤ 3) (hme : me < n) (hs : s.size ≤ maxLen) (hR : RefAt w cb me n p x lt) (hp : p.fine) (hh : p.noHole) (hx : x.small)
    (hc0 : 0 ≤ c) (hc1 : c < 3) (hi0 : 0 ≤ it) (hi1 : it < 4) (hv0' : 0 ≤ v) (hv1 : v ≤ 99) (er : Int) (tk : Bs) (p' : Pc) (x' : Ext) (e0 : er = evErr me n p s.data.toList) (e1 : tk = evTok me n p p' s.data.toList) (e2 : p' = evPut me n p (p.dotsOf c it) s.data.toList c it v) (e3 : x' = evXp me n p (p.dotsOf c it) x s.data.toList c it v) :
    Calls Tryz.prog 44 #[.pointer (some ⟨cb, 0, none⟩), .string s, .int .i64 c, .int .i64 it, .int .i64 v] w fun e w' => e = .returned (.tuple #[.string ⟨tk.toArray⟩, .int .i64 er]) ∧ RefStep cb me n p' x' lt w w' := by
  have hv0 : -99 ≤ v := by omega
  have ee2 : p' = if er = 0 then p.join ((p.dotsOf c it).put me (p.count (me : Int)) ⟨true, true, c, it, v⟩) else p := by rw [e2, e0]; rfl
  have ee3 : x' = if er = 0 then x.next ((p.dotsOf c it).put me (p.count (me : Int)) ⟨true, true, c, it, v⟩) else x := by rw [e3, e0]; rfl
  have HEv := hid (fun wx hx' => ev_any cb me n p x lt s [cartB c.toNat, itemB it.toNat] [cartB c.toNat, itemB it.toNat] v wx hn hme hs hx' hp hh hx (by simp) (.inr rfl) hv0 hv1 (fun s => s.isOf c it) (fun _ h => (isOf_eq h).1) (fun s r i hg hf => item_of c it hc0 hc1 hi0 hi1 s r i hg hf) (p.dotsOf c it) (fun r i _ _ => rfl) ⟨true, true, c, it, v⟩ rfl (fun _ => ⟨hc0, hc1, hi0, hi1, hv0, hv1⟩) (fun h => by cases h) rfl _ rfl er tk p' x' e0 (by rw [e1]; exact evTok_eq me n p p' _ er _ e0 ee2) ee2 ee3)
  have HRA := hid hR
  have HIC := hid (risCart_any c w)
  rw [show cartB3 c = true by simp [cartB3]; omega] at HIC
  have HII := hid (risItem_any it w)
  rw [show itemB4 it = true by simp [itemB4]; omega] at HII
  have HNm := hid (name_any c it w hc0 hc1 hi0 hi1)
  have d1 : decide (v < 0) = false := by simp; omega
  have d2 : decide (99 < v) = false := by simp; omega
  clear e0 e1 e2 e3 ee2 ee3 hR hp hh hx

  go_enter Tryz.func44, Tryz.ntmps44
  go_wp2_with fail
  refine HIC.out.mono ?_
  rintro e w1 ⟨rfl, hw1⟩
  subst w1
  go_wp2_with fail
  refine HII.out.mono ?_
  rintro e w1 ⟨rfl, hw1⟩
  subst w1
  go_wp2_with fail
  refine HNm.out.mono ?_
  rintro e w2 ⟨rfl, b2⟩
  go_wp2_with fail
  refine (HEv.out _ (HRA.out.on b2)).mono ?_
  rintro e w3 ⟨rfl, r3⟩
  go_wp2
  go_ret2
  exact ⟨rfl, r3.pre b2⟩

/-- A slot of dots alone, known. -/
theorem dot_slot (s : Sl) (h : s.filled = false ∧ s.cart = 0 ∧ s.item = 0 ∧ s.value = 0) : ({ s with known := true } : Sl) = Sl.dot := by
  obtain ⟨a, b, c, d, e⟩ := s
  simp only at h
  obtain ⟨rfl, rfl, rfl, rfl⟩ := h
  rfl
theorem evTake_dot (me n : Nat) (p taken : Pc) (l : List UInt8) (h : evErr me n p l = 0 → (taken me (p.count (me : Int))).filled = false ∧ (taken me (p.count (me : Int))).cart = 0 ∧ (taken me (p.count (me : Int))).item = 0 ∧ (taken me (p.count (me : Int))).value = 0) :
    evTake me n p taken l = if evErr me n p l = 0 then p.join (taken.put me (p.count (me : Int)) Sl.dot) else p := by
  unfold evTake
  by_cases e : evErr me n p l = 0
  · rw [if_pos e, if_pos e, dot_slot _ (h e)]
  · rw [if_neg e, if_neg e]
theorem evXt_dot (me n : Nat) (p taken : Pc) (x : Ext) (l : List UInt8) (h : evErr me n p l = 0 → (taken me (p.count (me : Int))).filled = false ∧ (taken me (p.count (me : Int))).cart = 0 ∧ (taken me (p.count (me : Int))).item = 0 ∧ (taken me (p.count (me : Int))).value = 0) :
    evXt me n p taken x l = if evErr me n p l = 0 then x.next (taken.put me (p.count (me : Int)) Sl.dot) else x := by
  unfold evXt
  by_cases e : evErr me n p l = 0
  · rw [if_pos e, if_pos e, dot_slot _ (h e)]
  · rw [if_neg e, if_neg e]

set_option maxRecDepth 100000 in
set_option maxHeartbeats 1000000 in
theorem rremove_yes (cb me n : Nat) (p : Pc) (x : Ext) (lt : Value) (s : ByteArray) (c it : Int) (w : World) (hn : n ≤ 3) (hme : me < n) (hs : s.size ≤ maxLen) (hR : RefAt w cb me n p x lt) (hp : p.fine) (hh : p.noHole) (hx : x.small)
    (hc0 : 0 ≤ c) (hc1 : c < 3) (hi0 : 0 ≤ it) (hi1 : it < 4) (er : Int) (tk : Bs) (p' : Pc) (x' : Ext) (e0 : er = evErr me n p s.data.toList) (e1 : tk = evTok me n p p' s.data.toList) (e2 : p' = evTake me n p (p.dotsOf c it) s.data.toList) (e3 : x' = evXt me n p (p.dotsOf c it) x s.data.toList) :
    Calls Tryz.prog 46 #[.pointer (some ⟨cb, 0, none⟩), .string s, .int .i64 c, .int .i64 it] w fun e w' => e = .returned (.tuple #[.string ⟨tk.toArray⟩, .int .i64 er]) ∧ RefStep cb me n p' x' lt w w' := by
  have hbar : evErr me n p s.data.toList = 0 → ((p.dotsOf c it) me (p.count (me : Int))).filled = false ∧ ((p.dotsOf c it) me (p.count (me : Int))).cart = 0 ∧ ((p.dotsOf c it) me (p.count (me : Int))).item = 0 ∧ ((p.dotsOf c it) me (p.count (me : Int))).value = 0 := fun hz => by
    have hat : (p.dotsOf c it) me (p.count (me : Int)) = if (p me (p.count (me : Int))).isOf c it then Sl.dot else Sl.zero := (fun r i _ _ => rfl) me (p.count (me : Int)) (by omega) (evErr_lt hz)
    rw [hat]
    split <;> exact ⟨rfl, rfl, rfl, rfl⟩
  have ee2 : p' = if er = 0 then p.join ((p.dotsOf c it).put me (p.count (me : Int)) Sl.dot) else p := by rw [e2, e0]; exact evTake_dot me n p _ _ hbar
  have ee3 : x' = if er = 0 then x.next ((p.dotsOf c it).put me (p.count (me : Int)) Sl.dot) else x := by rw [e3, e0]; exact evXt_dot me n p _ x _ hbar
  have HEv := hid (fun wx hx' => ev_any cb me n p x lt s [cartB c.toNat, itemB it.toNat] [] 0 wx hn hme hs hx' hp hh hx (by simp) (.inl rfl) (by omega) (by omega) (fun s => s.isOf c it) (fun _ h => (isOf_eq h).1) (fun s r i hg hf => item_of c it hc0 hc1 hi0 hi1 s r i hg hf) (p.dotsOf c it) (fun r i _ _ => rfl) Sl.dot rfl (fun h => by cases h) (fun _ => ⟨rfl, rfl, rfl⟩) rfl _ rfl er tk p' x' e0 (by rw [e1]; exact evTok_eq me n p p' _ er _ e0 ee2) ee2 ee3)
  have HRA := hid hR
  have HIC := hid (risCart_any c w)
  rw [show cartB3 c = true by simp [cartB3]; omega] at HIC
  have HII := hid (risItem_any it w)
  rw [show itemB4 it = true by simp [itemB4]; omega] at HII
  have HNm := hid (name_any c it w hc0 hc1 hi0 hi1)
  clear e0 e1 e2 e3 ee2 ee3 hR hp hh hx hbar

  go_enter Tryz.func46, Tryz.ntmps46
  go_wp2_with fail
  refine HIC.out.mono ?_
  rintro e w1 ⟨rfl, hw1⟩
  subst w1
  go_wp2_with fail
  refine HII.out.mono ?_
  rintro e w1 ⟨rfl, hw1⟩
  subst w1
  go_wp2_with fail
  refine HNm.out.mono ?_
  rintro e w2 ⟨rfl, b2⟩
  go_wp2_with fail
  refine (HEv.out _ (HRA.out.on b2)).mono ?_
  rintro e w3 ⟨rfl, r3⟩
  go_wp2
  go_ret2
  exact ⟨rfl, r3.pre b2⟩

set_option maxRecDepth 100000 in
set_option maxHeartbeats 1000000 in
theorem rclear_yes (cb me n : Nat) (p : Pc) (x : Ext) (lt : Value) (s : ByteArray) (c : Int) (w : World) (hn : n ≤ 3) (hme : me < n) (hs : s.size ≤ maxLen) (hR : RefAt w cb me n p x lt) (hp : p.fine) (hh : p.noHole) (hx : x.small)
    (hc0 : 0 ≤ c) (hc1 : c < 3) (er : Int) (tk : Bs) (p' : Pc) (x' : Ext) (e0 : er = evErr me n p s.data.toList) (e1 : tk = evTok me n p p' s.data.toList) (e2 : p' = evTake me n p (p.cartTo c 4) s.data.toList) (e3 : x' = evXt me n p (p.cartTo c 4) x s.data.toList) :
    Calls Tryz.prog 48 #[.pointer (some ⟨cb, 0, none⟩), .string s, .int .i64 c] w fun e w' => e = .returned (.tuple #[.string ⟨tk.toArray⟩, .int .i64 er]) ∧ RefStep cb me n p' x' lt w w' := by
  have hbar : evErr me n p s.data.toList = 0 → ((p.cartTo c 4) me (p.count (me : Int))).filled = false ∧ ((p.cartTo c 4) me (p.count (me : Int))).cart = 0 ∧ ((p.cartTo c 4) me (p.count (me : Int))).item = 0 ∧ ((p.cartTo c 4) me (p.count (me : Int))).value = 0 := fun hz => by
    have hat : (p.cartTo c 4) me (p.count (me : Int)) = if (p me (p.count (me : Int))).inCart c then Sl.dot else Sl.zero := (cart4_at p hp.ok c) me (p.count (me : Int)) (by omega) (evErr_lt hz)
    rw [hat]
    split <;> exact ⟨rfl, rfl, rfl, rfl⟩
  have ee2 : p' = if er = 0 then p.join ((p.cartTo c 4).put me (p.count (me : Int)) Sl.dot) else p := by rw [e2, e0]; exact evTake_dot me n p _ _ hbar
  have ee3 : x' = if er = 0 then x.next ((p.cartTo c 4).put me (p.count (me : Int)) Sl.dot) else x := by rw [e3, e0]; exact evXt_dot me n p _ x _ hbar
  have HEv := hid (fun wx hx' => ev_any cb me n p x lt s [cartB c.toNat] [] 0 wx hn hme hs hx' hp hh hx (by simp) (.inl rfl) (by omega) (by omega) (fun s => s.inCart c) (fun s h => by simp only [Sl.inCart, Bool.and_eq_true] at h; exact h.1) (fun s r i hg hf => cart_of c hc0 hc1 s r i hg hf) (p.cartTo c 4) (cart4_at p hp.ok c) Sl.dot rfl (fun h => by cases h) (fun _ => ⟨rfl, rfl, rfl⟩) rfl _ rfl er tk p' x' e0 (by rw [e1]; exact evTok_eq me n p p' _ er _ e0 ee2) ee2 ee3)
  have HRA := hid hR
  have HIC := hid (risCart_any c w)
  rw [show cartB3 c = true by simp [cartB3]; omega] at HIC
  have HNm := hid (name_any c 0 w hc0 hc1 (by omega) (by omega))
  clear e0 e1 e2 e3 ee2 ee3 hR hp hh hx hbar

  go_enter Tryz.func48, Tryz.ntmps48
  go_wp2_with fail
  refine HIC.out.mono ?_
  rintro e w1 ⟨rfl, hw1⟩
  subst w1
  go_wp2_with fail
  refine HNm.out.mono ?_
  rintro e w2 ⟨rfl, b2⟩
  have HX : Hid ((ByteArray.mk #[cartB c.toNat, itemB 0]).extract 0 1 = ByteArray.mk #[cartB c.toNat]) := by show _ = _; exact bs_extract [cartB c.toNat, itemB 0] 0 1
  have HEv2 := HEv.out _ (HRA.out.on b2)
  rw [show ByteArray.mk [cartB c.toNat].toArray = ByteArray.mk #[cartB c.toNat] from rfl, ← HX.out] at HEv2
  have HEv3 := hid HEv2
  clear HEv2
  go_wp2_with fail
  refine HEv3.out.mono ?_
  rintro e w3 ⟨rfl, r3⟩
  go_wp2
  go_ret2
  exact ⟨rfl, r3.pre b2⟩

end Go.Proofs.YtalaldfgjgpacaaGreatDoor

namespace Go.Proofs.YtalaldfgjgpacaaGreatDoor
set_option linter.unusedVariables false
set_option linter.unusedSimpArgs false
open Go.RowKit
attribute [local go_sem ↓] Go.wp_at_zero Go.wp_at_succ

set_option maxRecDepth 100000 in
set_option maxHeartbeats 1000000 in
theorem radd_no (cb : Nat) (s : ByteArray) (c it v : Int) (w : World) (hno : ¬ (0 ≤ c ∧ c < 3 ∧ 0 ≤ it ∧ it < 4 ∧ -99 ≤ v ∧ v ≤ 99)) :
    Calls Tryz.prog 42 #[.pointer (some ⟨cb, 0, none⟩), .string s, .int .i64 c, .int .i64 it, .int .i64 v] w fun e w' => e = .returned (.tuple #[.string ⟨#[]⟩, .int .i64 1]) ∧ w' = w := by
  have HIC := hid (risCart_any c w)
  cases hcc : cartB3 c
  · rw [hcc] at HIC
    clear hno hcc
    go_enter Tryz.func42, Tryz.ntmps42
    go_wp2_with fail
    refine HIC.out.mono ?_
    rintro e w1 ⟨rfl, hw1⟩
    subst w1
    go_wp2
    go_ret2
    exact ⟨rfl, rfl⟩
  · rw [hcc] at HIC
    have HII := hid (risItem_any it w)
    cases hii : itemB4 it
    · rw [hii] at HII
      clear hno hcc hii
      go_enter Tryz.func42, Tryz.ntmps42
      go_wp2_with fail
      refine HIC.out.mono ?_
      rintro e w1 ⟨rfl, hw1⟩
      subst w1
      go_wp2_with fail
      refine HII.out.mono ?_
      rintro e w1 ⟨rfl, hw1⟩
      subst w1
      go_wp2
      go_ret2
      exact ⟨rfl, rfl⟩
    · rw [hii] at HII
      simp only [cartB3, itemB4, Bool.and_eq_true, decide_eq_true_eq] at hcc hii
      by_cases h1 : v < -99
      · have d1 : decide (v < -99) = true := by simpa using h1
        clear hno hcc hii
        go_enter Tryz.func42, Tryz.ntmps42
        go_wp2_with fail
        refine HIC.out.mono ?_
        rintro e w1 ⟨rfl, hw1⟩
        subst w1
        go_wp2_with fail
        refine HII.out.mono ?_
        rintro e w1 ⟨rfl, hw1⟩
        subst w1
        go_wp2
        go_ret2
        exact ⟨rfl, rfl⟩
      · have d1 : decide (v < -99) = false := by simpa using h1
        have h2 : 99 < v := by omega
        have d2 : decide (99 < v) = true := by simpa using h2
        clear hno hcc hii
        go_enter Tryz.func42, Tryz.ntmps42
        go_wp2_with fail
        refine HIC.out.mono ?_
        rintro e w1 ⟨rfl, hw1⟩
        subst w1
        go_wp2_with fail
        refine HII.out.mono ?_
        rintro e w1 ⟨rfl, hw1⟩
        subst w1
        go_wp2
        go_ret2
        exact ⟨rfl, rfl⟩

set_option maxRecDepth 100000 in
set_option maxHeartbeats 1000000 in
theorem rset_no (cb : Nat) (s : ByteArray) (c it v : Int) (w : World) (hno : ¬ (0 ≤ c ∧ c < 3 ∧ 0 ≤ it ∧ it < 4 ∧ 0 ≤ v ∧ v ≤ 99)) :
    Calls Tryz.prog 44 #[.pointer (some ⟨cb, 0, none⟩), .string s, .int .i64 c, .int .i64 it, .int .i64 v] w fun e w' => e = .returned (.tuple #[.string ⟨#[]⟩, .int .i64 1]) ∧ w' = w := by
  have HIC := hid (risCart_any c w)
  cases hcc : cartB3 c
  · rw [hcc] at HIC
    clear hno hcc
    go_enter Tryz.func44, Tryz.ntmps44
    go_wp2_with fail
    refine HIC.out.mono ?_
    rintro e w1 ⟨rfl, hw1⟩
    subst w1
    go_wp2
    go_ret2
    exact ⟨rfl, rfl⟩
  · rw [hcc] at HIC
    have HII := hid (risItem_any it w)
    cases hii : itemB4 it
    · rw [hii] at HII
      clear hno hcc hii
      go_enter Tryz.func44, Tryz.ntmps44
      go_wp2_with fail
      refine HIC.out.mono ?_
      rintro e w1 ⟨rfl, hw1⟩
      subst w1
      go_wp2_with fail
      refine HII.out.mono ?_
      rintro e w1 ⟨rfl, hw1⟩
      subst w1
      go_wp2
      go_ret2
      exact ⟨rfl, rfl⟩
    · rw [hii] at HII
      simp only [cartB3, itemB4, Bool.and_eq_true, decide_eq_true_eq] at hcc hii
      by_cases h1 : v < 0
      · have d1 : decide (v < 0) = true := by simpa using h1
        clear hno hcc hii
        go_enter Tryz.func44, Tryz.ntmps44
        go_wp2_with fail
        refine HIC.out.mono ?_
        rintro e w1 ⟨rfl, hw1⟩
        subst w1
        go_wp2_with fail
        refine HII.out.mono ?_
        rintro e w1 ⟨rfl, hw1⟩
        subst w1
        go_wp2
        go_ret2
        exact ⟨rfl, rfl⟩
      · have d1 : decide (v < 0) = false := by simpa using h1
        have h2 : 99 < v := by omega
        have d2 : decide (99 < v) = true := by simpa using h2
        clear hno hcc hii
        go_enter Tryz.func44, Tryz.ntmps44
        go_wp2_with fail
        refine HIC.out.mono ?_
        rintro e w1 ⟨rfl, hw1⟩
        subst w1
        go_wp2_with fail
        refine HII.out.mono ?_
        rintro e w1 ⟨rfl, hw1⟩
        subst w1
        go_wp2
        go_ret2
        exact ⟨rfl, rfl⟩

set_option maxRecDepth 100000 in
set_option maxHeartbeats 1000000 in
theorem rremove_no (cb : Nat) (s : ByteArray) (c it : Int) (w : World) (hno : ¬ (0 ≤ c ∧ c < 3 ∧ 0 ≤ it ∧ it < 4)) :
    Calls Tryz.prog 46 #[.pointer (some ⟨cb, 0, none⟩), .string s, .int .i64 c, .int .i64 it] w fun e w' => e = .returned (.tuple #[.string ⟨#[]⟩, .int .i64 1]) ∧ w' = w := by
  have HIC := hid (risCart_any c w)
  cases hcc : cartB3 c
  · rw [hcc] at HIC
    clear hno hcc
    go_enter Tryz.func46, Tryz.ntmps46
    go_wp2_with fail
    refine HIC.out.mono ?_
    rintro e w1 ⟨rfl, hw1⟩
    subst w1
    go_wp2
    go_ret2
    exact ⟨rfl, rfl⟩
  · rw [hcc] at HIC
    have HII := hid (risItem_any it w)
    cases hii : itemB4 it
    · rw [hii] at HII
      clear hno hcc hii
      go_enter Tryz.func46, Tryz.ntmps46
      go_wp2_with fail
      refine HIC.out.mono ?_
      rintro e w1 ⟨rfl, hw1⟩
      subst w1
      go_wp2_with fail
      refine HII.out.mono ?_
      rintro e w1 ⟨rfl, hw1⟩
      subst w1
      go_wp2
      go_ret2
      exact ⟨rfl, rfl⟩
    · exfalso
      simp only [cartB3, itemB4, Bool.and_eq_true, decide_eq_true_eq] at hcc hii
      exact hno ⟨hcc.1, hcc.2, hii.1, hii.2⟩

set_option maxRecDepth 100000 in
set_option maxHeartbeats 1000000 in
theorem rclear_no (cb : Nat) (s : ByteArray) (c : Int) (w : World) (hno : ¬ (0 ≤ c ∧ c < 3)) :
    Calls Tryz.prog 48 #[.pointer (some ⟨cb, 0, none⟩), .string s, .int .i64 c] w fun e w' => e = .returned (.tuple #[.string ⟨#[]⟩, .int .i64 1]) ∧ w' = w := by
  have HIC := hid (risCart_any c w)
  cases hcc : cartB3 c
  · rw [hcc] at HIC
    clear hno hcc
    go_enter Tryz.func48, Tryz.ntmps48
    go_wp2_with fail
    refine HIC.out.mono ?_
    rintro e w1 ⟨rfl, hw1⟩
    subst w1
    go_wp2
    go_ret2
    exact ⟨rfl, rfl⟩
  · exfalso
    simp only [cartB3, Bool.and_eq_true, decide_eq_true_eq] at hcc
    exact hno hcc

theorem hp_new2 (w : World) (o1 o2 : Obj) : ((w.alloc o1).alloc o2).heap[w.heap.size + 1]? = some o2 := by simpa using hp_new (w.alloc o1) o2
theorem mkAck1 (w : World) : (Instr.makeSlice 36 (.int .i64 1) (.int .i64 1)).run Tryz.prog w = .ok (.slice (some ⟨w.heap.size, 0, none⟩) 1 1) (w.alloc (.cells #[.int .i64 0] 3)) := by kernel_rfl
theorem mkAck2 (w : World) : (Instr.makeSlice 36 (.int .i64 2) (.int .i64 2)).run Tryz.prog w = .ok (.slice (some ⟨w.heap.size, 0, none⟩) 2 2) (w.alloc (.cells #[.int .i64 0, .int .i64 0] 3)) := by kernel_rfl
theorem mkAck3 (w : World) : (Instr.makeSlice 36 (.int .i64 3) (.int .i64 3)).run Tryz.prog w = .ok (.slice (some ⟨w.heap.size, 0, none⟩) 3 3) (w.alloc (.cells #[.int .i64 0, .int .i64 0, .int .i64 0] 3)) := by kernel_rfl

set_option maxRecDepth 100000 in
set_option maxHeartbeats 1000000 in
theorem rnew_yes (me n : Nat) (w : World) (hn : n ≤ 3) (hm : me < n) :
    Calls Tryz.prog 37 #[.int .i64 me, .int .i64 n] w fun e w' => e = .returned (.tuple #[.pointer (some ⟨w.heap.size + 1, 0, none⟩), .int .i64 0]) ∧ RefAt w' (w.heap.size + 1) me n Pc.empty Ext.zero (.slice none 0 0) ∧ Blw w w' := by
  have h1 : decide ((n : Int) < 1) = false := by simp; omega
  have h2 : decide ((3 : Int) < (n : Int)) = false := by simp; omega
  have h3 : decide ((me : Int) < 0) = false := by rw [decide_eq_false_iff_not]; omega
  have h4 : decide ((n : Int) ≤ (me : Int)) = false := by simp; omega
  have : n = 1 ∨ n = 2 ∨ n = 3 := by omega
  rcases this with rfl | rfl | rfl
  · have hmk := mkAck1
    go_enter Tryz.func37, Tryz.ntmps37
    go_wp2
    go_ret2
    exact ⟨rfl, ⟨_, _, _, [], [], 0, [], hp_new2 w _ _, Ls.nil _ _, Ls.nil _ _, LateAt.nil _, ⟨rfl, rfl, Nat.le_add_left _ _, rfl, hp_old _ (by simp) (hp_new _ _)⟩, rel_empty⟩, ((Blw.rfl _).al _).al _⟩
  · have hmk := mkAck2
    go_enter Tryz.func37, Tryz.ntmps37
    go_wp2
    go_ret2
    exact ⟨rfl, ⟨_, _, _, [], [], 0, [], hp_new2 w _ _, Ls.nil _ _, Ls.nil _ _, LateAt.nil _, ⟨rfl, rfl, Nat.le_add_left _ _, rfl, hp_old _ (by simp) (hp_new _ _)⟩, rel_empty⟩, ((Blw.rfl _).al _).al _⟩
  · have hmk := mkAck3
    go_enter Tryz.func37, Tryz.ntmps37
    go_wp2
    go_ret2
    exact ⟨rfl, ⟨_, _, _, [], [], 0, [], hp_new2 w _ _, Ls.nil _ _, Ls.nil _ _, LateAt.nil _, ⟨rfl, rfl, Nat.le_add_left _ _, rfl, hp_old _ (by simp) (hp_new _ _)⟩, rel_empty⟩, ((Blw.rfl _).al _).al _⟩

set_option maxRecDepth 100000 in
set_option maxHeartbeats 400000 in
theorem rnew_no (me n : Int) (w : World) (h : newOk me n = false) :
    Calls Tryz.prog 37 #[.int .i64 me, .int .i64 n] w fun e w' => e = .returned (.tuple #[.pointer none, .int .i64 1]) ∧ w' = w := by
  by_cases g1 : n < 1
  · have h1 : decide (n < 1) = true := by simpa using g1
    clear h
    go_enter Tryz.func37, Tryz.ntmps37
    go_wp2
    go_ret2
    exact ⟨rfl, rfl⟩
  · have h1 : decide (n < 1) = false := by simpa using g1
    by_cases g2 : 3 < n
    · have h2 : decide (3 < n) = true := by simpa using g2
      clear h
      go_enter Tryz.func37, Tryz.ntmps37
      go_wp2
      go_ret2
      exact ⟨rfl, rfl⟩
    · have h2 : decide (3 < n) = false := by simpa using g2
      by_cases g3 : me < 0
      · have h3 : decide (me < 0) = true := by simpa using g3
        clear h
        go_enter Tryz.func37, Tryz.ntmps37
        go_wp2
        go_ret2
        exact ⟨rfl, rfl⟩
      · have h3 : decide (me < 0) = false := by simpa using g3
        have g4 : n ≤ me := by
          simp only [newOk, Bool.and_eq_false_iff, decide_eq_false_iff_not] at h
          omega
        have h4 : decide (n ≤ me) = true := by simpa using g4
        clear h
        go_enter Tryz.func37, Tryz.ntmps37
        go_wp2
        go_ret2
        exact ⟨rfl, rfl⟩
end Go.Proofs.YtalaldfgjgpacaaGreatDoor
