import Derived.Test.YtkeanpabacfdlaaGreatDoorQ9
import Derived.Test.YtkeanpabacfdlaaGreatDoorW17
namespace Go.Proofs.YtkeanpabacfdlaaGreatDoor
set_option linter.unusedVariables false
set_option linter.unusedSimpArgs false
open Go.RowKit
attribute [local go_sem ↓] Go.wp_at_zero Go.wp_at_succ

/-- The document's replica lies there, and holds p. -/
structure RefAt (w : World) (cb me n : Nat) (p : Pc) (x : Ext) (lt : Value) : Prop where
  h : ∃ a b ac D E ln ls, w.heap[cb]? = some (.cells (refArr me n a b x.had lt ac x.log) 104) ∧ Ls w 0 a D ∧ Ls w 0 b E ∧ LateAt w lt ln ls ∧ ln ≤ 4 ∧ RelP p D E

structure RefStep (cb me n : Nat) (p' : Pc) (x' : Ext) (lt : Value) (w w' : World) : Prop where
  h : ∃ lt', RefAt w' cb me n p' x' lt' ∧ (lt'.ownBlock = lt.ownBlock ∨ ∃ g, lt'.ownBlock = some g ∧ w.heap.size ≤ g)
  bs : Bs2 (fun k => k = cb ∨ lt.ownBlock = some k) w w'

theorem RefAt.on {w w' : World} {cb me n : Nat} {p : Pc} {x : Ext} {lt : Value} (h : RefAt w cb me n p x lt) (hb : Blw w w') : RefAt w' cb me n p x lt := by
  obtain ⟨a, b, ac, D, E, ln, ls, h1, h2, h3, h4, h5, h6⟩ := h.h
  exact ⟨a, b, ac, D, E, ln, ls, hb.bq h1, h2.on hb, h3.on hb, h4.on hb, h5, h6⟩
theorem RefStep.same {cb me n : Nat} {p : Pc} {x : Ext} {lt : Value} {w w' : World} (h : RefAt w cb me n p x lt) (hb : Blw w w') : RefStep cb me n p x lt w w' :=
  ⟨⟨lt, h.on hb, .inl rfl⟩, hb.b2 _⟩
theorem RefStep.pre {cb me n : Nat} {p : Pc} {x : Ext} {lt : Value} {w w1 w' : World} (h : RefStep cb me n p x lt w1 w') (hb : Blw w w1) : RefStep cb me n p x lt w w' := by
  obtain ⟨lt', h1, h2⟩ := h.h
  exact ⟨⟨lt', h1, h2.imp id (fun ⟨g, e, k⟩ => ⟨g, e, Nat.le_trans hb.sz k⟩)⟩, (hb.b2 _).tr (h.bs.weak (fun i hi => .inl hi))⟩

theorem text_take2 (s : Sl) (r i : Nat) : (s.text r i).take 2 = [cartB s.cart.toNat, itemB s.item.toNat] := rfl
theorem text_take1 (s : Sl) (r i : Nat) : (s.text r i).take 1 = [cartB s.cart.toNat] := rfl

/-- An event at the document's replica. -/
theorem ev_any (cb me n : Nat) (p : Pc) (x : Ext) (lt : Value) (s : ByteArray) (gone made : Bs) (v : Int) (w : World) (hn : n ≤ 3) (hme : me < n) (hs : s.size ≤ maxLen) (hR : RefAt w cb me n p x lt) (hp : p.fine) (hh : p.noHole) (hx : x.small)
    (hgl : gone.length ≤ 2) (hml : made = [] ∨ made.length = 2) (hv0 : -99 ≤ v) (hv1 : v ≤ 99) (Tq : Sl → Bool) (hTq : ∀ s, Tq s = true → s.filled = true)
    (hTT : ∀ (s : Sl) (r i : Nat), s.good → s.filled = true → (!(gone == []) && ((s.text r i).take gone.length == gone)) = Tq s)
    (taken : Pc) (htk : ∀ r i, r < 3 → i < 9 → taken r i = if Tq (p r i) then Sl.dot else Sl.zero) (sl : Sl) (hsl : sl.known = true) (hslg : sl.filled = true → sl.good) (hslc : sl.filled = false → sl.cart = 0 ∧ sl.item = 0 ∧ sl.value = 0)
    (hmade : (if sl.filled then [sl.text me (p.count (me : Int) + 1)] else []) = if made = [] then [] else [made ++ dotT me (p.count (me : Int)) ++ valL v])
    (q : Pc) (hq : q = taken.put me (p.count (me : Int)) sl) (er : Int) (tk : Bs) (p' : Pc) (x' : Ext) (e0 : er = evErr me n p s.data.toList) (e1 : tk = if er = 0 then (p.join q).digsTo n else []) (e2 : p' = if er = 0 then p.join q else p) (e3 : x' = if er = 0 then x.next q else x) :
    Calls Tryz.prog 67 #[.pointer (some ⟨cb, 0, none⟩), .string s, .string ⟨gone.toArray⟩, .string ⟨made.toArray⟩, .int .i64 v] w fun e w' => e = .returned (.tuple #[.string ⟨tk.toArray⟩, .int .i64 er]) ∧ RefStep cb me n p' x' lt w w' := by
  obtain ⟨a, b, ac, D, E, ln, ls, h1, h2, h3, h4, h5, h6⟩ := hR.h
  by_cases hE : evErr me n p s.data.toList = 0
  · rw [hE] at e0
    rw [if_pos e0] at e1 e2 e3
    have hk9 := evErr_lt hE
    have hnk : (p me (p.count (me : Int))).known = false := by rw [hh.at (by omega) hk9]; simp
    obtain ⟨r1, r2, r3⟩ := rel_delta h6 hp me (p.count (me : Int)) (by omega) hk9 hnk Tq hTq (fun y => !(gone == []) && (y.take gone.length == gone)) (fun r i hr hi hf => hTT _ _ _ (hp.ok.good hr hi hf) hf) taken htk sl hsl hslg hslc
    rw [← hq] at r1 r2 r3
    have := event_yes cb me n a b x.had ln lt ac x.log D E ls p q s gone made v w hn hme hs h1 h2 h3 h4 h5 hx.h hx.l h6 hp hE (fun y => !(gone == []) && (y.take gone.length == gone)) (fun y _ => rfl) hgl hml hv0 hv1 (p.count (me : Int)) rfl hk9 r2 _ hmade r1 (x.had + 1) (if ln = 4 then 4 else ln + 1) (x.log ++ frameL ([68] ++ q.text)) _ _ rfl rfl rfl rfl rfl tk e1
    rw [e0]
    refine this.mono ?_
    rintro e w' ⟨he, hr⟩
    obtain ⟨u, v', lt', ls', i1, i2, i3, i4, i5⟩ := hr.at_
    refine ⟨he, ⟨lt', ?_, i5⟩, hr.bs⟩
    refine ⟨u, v', ac, _, _, _, ls', ?_, i2, i3, i4, ?_, ?_⟩
    · rw [e3]; exact i1
    · split <;> omega
    · rw [e2]; exact rel_join h6 r1 hp r2
  · have hne : er ≠ 0 := by rw [e0]; exact hE
    rw [if_neg hne] at e1 e2 e3
    have := event_no cb me n a b x.had lt ac x.log D E p s gone made v w hn hs h1 (h6.pcAt hp.ok h2 h3) (h6.known hp.ok) hE
    rw [← e0] at this
    subst e1 e2 e3
    refine this.mono ?_
    rintro e w' ⟨he, rfl⟩
    exact ⟨he, RefStep.same hR (Blw.rfl _)⟩

set_option maxHeartbeats 400000 in
theorem risCart_any (c : Int) (w : World) : Calls Tryz.prog 64 #[.int .i64 c] w fun e w' => e = .returned (.bool (cartB3 c)) ∧ w' = w := by
  by_cases h1 : 0 ≤ c
  · have d1 : decide (0 ≤ c) = true := by simpa using h1
    by_cases h2 : c < 3
    · have d2 : decide (c < 3) = true := by simpa using h2
      go_enter Tryz.func64, Tryz.ntmps64
      go_wp2
      go_ret
      simp [cartB3, h1, h2]
    · have d2 : decide (c < 3) = false := by simpa using h2
      go_enter Tryz.func64, Tryz.ntmps64
      go_wp2
      go_ret
      simp [cartB3, h1, h2]
  · have d1 : decide (0 ≤ c) = false := by simpa using h1
    go_enter Tryz.func64, Tryz.ntmps64
    go_wp2
    go_ret
    simp [cartB3, h1]; omega
set_option maxHeartbeats 400000 in
theorem risItem_any (c : Int) (w : World) : Calls Tryz.prog 65 #[.int .i64 c] w fun e w' => e = .returned (.bool (itemB4 c)) ∧ w' = w := by
  by_cases h1 : 0 ≤ c
  · have d1 : decide (0 ≤ c) = true := by simpa using h1
    by_cases h2 : c < 4
    · have d2 : decide (c < 4) = true := by simpa using h2
      go_enter Tryz.func65, Tryz.ntmps65
      go_wp2
      go_ret
      simp [itemB4, h1, h2]
    · have d2 : decide (c < 4) = false := by simpa using h2
      go_enter Tryz.func65, Tryz.ntmps65
      go_wp2
      go_ret
      simp [itemB4, h1, h2]
  · have d1 : decide (0 ≤ c) = false := by simpa using h1
    go_enter Tryz.func65, Tryz.ntmps65
    go_wp2
    go_ret
    simp [itemB4, h1]; omega

theorem conv2 (m n : Int) (w : World) : (convert 113 9 (.slice (some ⟨w.heap.size, 0, none⟩) 2 2)).run Tryz.prog (w.alloc (.cells #[.int .u8 m, .int .u8 n] 5)) = .ok (.string ⟨#[UInt8.ofNat m.toNat, UInt8.ofNat n.toNat]⟩) (w.alloc (.cells #[.int .u8 m, .int .u8 n] 5)) := by
  rw [run_convert_bytes_string _ 113 9 5 _ _ _ Tryz.underlying113 Tryz.underlying5 Tryz.underlying9]
  rw [run_bytesToString _ _ _ _ [m, n]]
  · rfl
  · have := run_loadCells_list (P := Tryz.prog) (w.alloc (.cells #[.int .u8 m, .int .u8 n] 5)) ⟨w.heap.size, 0, none⟩ [.int .u8 m, .int .u8 n] (fun j v hv => by
      match j, hv with
      | 0, hv => simp at hv; subst hv; simp [Addr.add]
      | 1, hv => simp at hv; subst hv; simp [Addr.add])
    simpa using this

set_option maxRecDepth 100000 in
set_option maxHeartbeats 1000000 in
theorem name_any (c it : Int) (w : World) (hc0 : 0 ≤ c) (hc1 : c < 3) (hi0 : 0 ≤ it) (hi1 : it < 4) :
    Calls Tryz.prog 66 #[.int .i64 c, .int .i64 it] w fun e w' => e = .returned (.string ⟨#[cartB c.toNat, itemB it.toNat]⟩) ∧ Blw w w' := by
  have hcv := conv2 (97 + c) (65 + it)
  have e1 : UInt8.ofNat (97 + c).toNat = cartB c.toNat := by unfold cartB; congr 1; omega
  have e2 : UInt8.ofNat (65 + it).toNat = itemB it.toNat := by unfold itemB; congr 1; omega
  rw [e1, e2] at hcv
  generalize cartB c.toNat = x at *
  generalize itemB it.toNat = y at *
  clear e1 e2
  go_enter Tryz.func66, Tryz.ntmps66
  go_wp2
  go_ret
  exact ⟨rfl, (Blw.rfl _).al _⟩
end Go.Proofs.YtkeanpabacfdlaaGreatDoor
