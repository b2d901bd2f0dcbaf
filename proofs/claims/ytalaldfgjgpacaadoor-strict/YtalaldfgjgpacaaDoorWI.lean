import Derived.Test.YtalaldfgjgpacaaDoorWG
namespace Go.Proofs.YtalaldfgjgpacaaDoor
set_option linter.unusedVariables false
set_option linter.unusedSimpArgs false
open Go.RowKit

set_option maxRecDepth 100000 in
set_option maxHeartbeats 1000000 in
theorem still_any (cb xb b me n : Nat) (K : Value) (p q : Pc) (x y : Ext) (w : World) (said : List UInt8) (err last : Int) (old : Value) (n1 n2 n3 cl : Int) (tok : List UInt8) (hn : n ≤ 3) (hp : p.ok)
    (hc : w.heap[cb]? = some (.cells (clArr n (.slice (some ⟨xb, 0, none⟩) 1 1) K said err last y.log (q.digsTo n ++ [59] ++ q.entTo 12) old n1 n2 n3 cl tok) 49))
    (hx : w.heap[xb]? = some (.cells #[.pointer (some ⟨b, 0, none⟩)] 24)) (h : w.heap[b]? = some (.cells (repArr me n p x) 67)) :
    Calls Tryd.prog 18 #[.pointer (some ⟨cb, 0, none⟩), .int .i64 0] w fun e w' => e = .returned (.bool ((x.log == y.log) && (p.digsTo n ++ [59] ++ p.entTo 12 == q.digsTo n ++ [59] ++ q.entTo 12))) ∧ Blw w w' := by
  have HS := hid (state_any (xt := x) b me n p w hn hp h)
  have HLg := hid (log_any b me n p x w h)
  generalize x.log = lgx at *
  generalize y.log = lgy at *
  generalize p.digsTo n ++ [59] ++ p.entTo 12 = stx at *
  generalize q.digsTo n ++ [59] ++ q.entTo 12 = stq at *
  have c2 : w.cell? ⟨cb, 2, none⟩ = some (.slice (some ⟨xb, 0, none⟩) 1 1) := by rw [blk_cell hc]; rfl
  have x0 : w.cell? ⟨xb, 0, none⟩ = some (.pointer (some ⟨b, 0, none⟩)) := by rw [blk_cell hx]; rfl
  have HC := hid hc
  clear hc hx h hp
  cases hlg : (lgx == lgy)
  · go_enter Tryd.func18, Tryd.ntmps18
    go_wp2_with fail
    refine HLg.out.mono ?_
    rintro e w0 ⟨rfl, hw0⟩
    subst w0
    go_wp2_with fail
    refine HS.out.mono ?_
    rintro e w1 ⟨rfl, b1⟩
    have g := b1.bk' HC.out
    have c12 : w1.cell? ⟨cb, 12, none⟩ = some (.string ⟨lgy.toArray⟩) := by rw [blk_cell g]; rfl
    have c13 : w1.cell? ⟨cb, 13, none⟩ = some (.string ⟨stq.toArray⟩) := by rw [blk_cell g]; rfl
    have B1 := hid b1
    clear c2 x0 b1 g
    go_wp2
    go_ret
    exact ⟨rfl, B1.out⟩
  · go_enter Tryd.func18, Tryd.ntmps18
    go_wp2_with fail
    refine HLg.out.mono ?_
    rintro e w0 ⟨rfl, hw0⟩
    subst w0
    go_wp2_with fail
    refine HS.out.mono ?_
    rintro e w1 ⟨rfl, b1⟩
    have g := b1.bk' HC.out
    have c12 : w1.cell? ⟨cb, 12, none⟩ = some (.string ⟨lgy.toArray⟩) := by rw [blk_cell g]; rfl
    have c13 : w1.cell? ⟨cb, 13, none⟩ = some (.string ⟨stq.toArray⟩) := by rw [blk_cell g]; rfl
    have B1 := hid b1
    clear c2 x0 b1 g
    go_wp2
    go_ret
    exact ⟨rfl, B1.out⟩

/-- What a call with a token may come to. -/
def Outcome (n : Nat) (p p' : Pc) (ee : Int) (tx : List UInt8) : Prop := p'.ok ∧ ((ee ≠ 0 ∧ p' = p ∧ tx = []) ∨ (ee = 0 ∧ tx = p'.digsTo n))

theorem out_put {me n : Nat} {p t : Pc} {l : List UInt8} {c it v : Int} (hp : p.ok) (ht : t.ok) (hc0 : 0 ≤ c) (hc1 : c < 3) (hi0 : 0 ≤ it) (hi1 : it < 4) (hv0 : -99 ≤ v) (hv1 : v ≤ 99) :
    Outcome n p (evPut me n p t l c it v) (evErr me n p l) (evTok me n p (evPut me n p t l c it v) l) := by
  by_cases hE : evErr me n p l = 0
  · refine ⟨?_, .inr ⟨hE, by unfold evTok; rw [if_pos hE]⟩⟩
    unfold evPut; rw [if_pos hE]
    exact ok_join hp (ok_put ht _ _ hc0 hc1 hi0 hi1 hv0 hv1)
  · refine ⟨?_, .inl ⟨hE, by unfold evPut; rw [if_neg hE], by unfold evTok; rw [if_neg hE]⟩⟩
    unfold evPut; rw [if_neg hE]; exact hp
theorem out_take {me n : Nat} {p t : Pc} {l : List UInt8} (hp : p.ok) (ht : t.ok) :
    Outcome n p (evTake me n p t l) (evErr me n p l) (evTok me n p (evTake me n p t l) l) := by
  by_cases hE : evErr me n p l = 0
  · refine ⟨?_, .inr ⟨hE, by unfold evTok; rw [if_pos hE]⟩⟩
    unfold evTake; rw [if_pos hE]
    exact ok_join hp (ok_putk ht _ _)
  · refine ⟨?_, .inl ⟨hE, by unfold evTake; rw [if_neg hE], by unfold evTok; rw [if_neg hE]⟩⟩
    unfold evTake; rw [if_neg hE]; exact hp
theorem out_no {n : Nat} {p : Pc} (hp : p.ok) : Outcome n p p 1 [] := ⟨hp, .inl ⟨by decide, rfl, rfl⟩⟩

/-- The post of such a call. -/
def OutPost (b me n : Nat) (p : Pc) (x : Ext) (w : World) (e : Ending) (w' : World) : Prop := ∃ p' x' ee tx, e = .returned (.tuple #[.string ⟨tx.toArray⟩, .int .i64 ee]) ∧ Outcome n p p' ee tx ∧ ((ee ≠ 0 → x' = x) ∧ x'.had ≤ x.had + 1 ∧ x'.log.length ≤ x.log.length + 400) ∧ RepTo b me n p' x' w w'

theorem next_len (x : Ext) (q : Pc) (hq : q.ok) : (x.next q).had = x.had + 1 ∧ (x.next q).log.length ≤ x.log.length + 400 := by
  refine ⟨rfl, ?_⟩
  have := text_len' q hq
  simp only [Ext.next, List.length_append, frameL_len, List.length_singleton]; omega
theorem ext_of {x x' : Ext} {q : Pc} {ee : Int} (hx : x' = if ee = 0 then x.next q else x) (hq : q.ok) : (ee ≠ 0 → x' = x) ∧ x'.had ≤ x.had + 1 ∧ x'.log.length ≤ x.log.length + 400 := by
  have := next_len x q hq
  refine ⟨fun h => by rw [hx, if_neg h], ?_, ?_⟩ <;> rw [hx] <;> split <;> omega
theorem ext_no (x : Ext) : ((1 : Int) ≠ 0 → x = x) ∧ x.had ≤ x.had + 1 ∧ x.log.length ≤ x.log.length + 400 := ⟨fun _ => rfl, by omega, by omega⟩

theorem add_out (b me n : Nat) (p : Pc) (x : Ext) (s : ByteArray) (c it v : Int) (w : World) (hn : n ≤ 3) (hme : me < n) (hs : s.size ≤ maxLen) (hp : p.ok) (h : w.heap[b]? = some (.cells (repArr me n p x) 67)) (hx : x.small) (ht : Tab Tryd.prog w) :
    Calls Tryd.prog 8 #[.pointer (some ⟨b, 0, none⟩), .string s, .int .i64 c, .int .i64 it, .int .i64 v] w (OutPost b me n p x w) := by
  by_cases hy : 0 ≤ c ∧ c < 3 ∧ 0 ≤ it ∧ it < 4 ∧ -99 ≤ v ∧ v ≤ 99
  · obtain ⟨hc0, hc1, hi0, hi1, hv0, hv1⟩ := hy
    exact (add_yes (xt := x) b me n p s c it v w hn hme hs h hc0 hc1 hi0 hi1 hv0 hv1 hx ht).mono fun _ _ h' => ⟨_, _, _, _, h'.1, out_put hp ok_empty hc0 hc1 hi0 hi1 hv0 hv1, ext_of rfl (ok_put ok_empty _ _ hc0 hc1 hi0 hi1 hv0 hv1), h'.2⟩
  · exact (add_no b s c it v w hy).mono fun _ _ h' => ⟨p, x, 1, [], h'.1, out_no hp, ext_no x, by rw [h'.2]; exact RepTo.blw h (Blw.rfl _)⟩
theorem set_out (b me n : Nat) (p : Pc) (x : Ext) (s : ByteArray) (c it v : Int) (w : World) (hn : n ≤ 3) (hme : me < n) (hs : s.size ≤ maxLen) (hp : p.ok) (h : w.heap[b]? = some (.cells (repArr me n p x) 67)) (hx : x.small) (ht : Tab Tryd.prog w) :
    Calls Tryd.prog 9 #[.pointer (some ⟨b, 0, none⟩), .string s, .int .i64 c, .int .i64 it, .int .i64 v] w (OutPost b me n p x w) := by
  by_cases hy : 0 ≤ c ∧ c < 3 ∧ 0 ≤ it ∧ it < 4 ∧ 0 ≤ v ∧ v ≤ 99
  · obtain ⟨hc0, hc1, hi0, hi1, hv0, hv1⟩ := hy
    exact (set_yes (xt := x) b me n p s c it v w hn hme hs h hc0 hc1 hi0 hi1 hv0 hv1 hx ht).mono fun _ _ h' => ⟨_, _, _, _, h'.1, out_put hp (ok_dotsOf p c it) hc0 hc1 hi0 hi1 (by omega) hv1, ext_of rfl (ok_put (ok_dotsOf p c it) _ _ hc0 hc1 hi0 hi1 (by omega) hv1), h'.2⟩
  · exact (set_no b s c it v w hy).mono fun _ _ h' => ⟨p, x, 1, [], h'.1, out_no hp, ext_no x, by rw [h'.2]; exact RepTo.blw h (Blw.rfl _)⟩
theorem remove_out (b me n : Nat) (p : Pc) (x : Ext) (s : ByteArray) (c it : Int) (w : World) (hn : n ≤ 3) (hme : me < n) (hs : s.size ≤ maxLen) (hp : p.ok) (h : w.heap[b]? = some (.cells (repArr me n p x) 67)) (hx : x.small) (ht : Tab Tryd.prog w) :
    Calls Tryd.prog 10 #[.pointer (some ⟨b, 0, none⟩), .string s, .int .i64 c, .int .i64 it] w (OutPost b me n p x w) := by
  by_cases hy : 0 ≤ c ∧ c < 3 ∧ 0 ≤ it ∧ it < 4
  · obtain ⟨hc0, hc1, hi0, hi1⟩ := hy
    exact (remove_yes (xt := x) b me n p s c it w hn hme hs h hc0 hc1 hi0 hi1 hx ht).mono fun _ _ h' => ⟨_, _, _, _, h'.1, out_take hp (ok_dotsOf p c it), ext_of rfl (ok_putk (ok_dotsOf p c it) _ _), h'.2⟩
  · exact (remove_no b s c it w hy).mono fun _ _ h' => ⟨p, x, 1, [], h'.1, out_no hp, ext_no x, by rw [h'.2]; exact RepTo.blw h (Blw.rfl _)⟩
theorem clear_out (b me n : Nat) (p : Pc) (x : Ext) (s : ByteArray) (c : Int) (w : World) (hn : n ≤ 3) (hme : me < n) (hs : s.size ≤ maxLen) (hp : p.ok) (h : w.heap[b]? = some (.cells (repArr me n p x) 67)) (hx : x.small) (ht : Tab Tryd.prog w) :
    Calls Tryd.prog 11 #[.pointer (some ⟨b, 0, none⟩), .string s, .int .i64 c] w (OutPost b me n p x w) := by
  by_cases hy : 0 ≤ c ∧ c < 3
  · obtain ⟨hc0, hc1⟩ := hy
    exact (clear_yes (xt := x) b me n p s c w hn hme hs h hc0 hc1 hx ht).mono fun _ _ h' => ⟨_, _, _, _, h'.1, out_take hp (ok_cartTo p c 4), ext_of rfl (ok_putk (ok_cartTo p c 4) _ _), h'.2⟩
  · exact (clear_no b s c w hy).mono fun _ _ h' => ⟨p, x, 1, [], h'.1, out_no hp, ext_no x, by rw [h'.2]; exact RepTo.blw h (Blw.rfl _)⟩
theorem read_out (b me n : Nat) (p : Pc) (x : Ext) (s : ByteArray) (c : Int) (w : World) (hn : n ≤ 3) (hs : s.size ≤ maxLen) (hp : p.ok) (ht : Tab Tryd.prog w) (h : w.heap[b]? = some (.cells (repArr me n p x) 67)) :
    Calls Tryd.prog 12 #[.pointer (some ⟨b, 0, none⟩), .string s, .int .i64 c] w fun e w' => ∃ l ee tx, e = .returned (.tuple #[.string ⟨l.toArray⟩, .string ⟨tx.toArray⟩, .int .i64 ee]) ∧ Outcome n p p ee tx ∧ (ee ≠ 0 → l = []) ∧ Blw w w' := by
  by_cases hy : 0 ≤ c ∧ c < 3
  · obtain ⟨hc0, hc1⟩ := hy
    by_cases hE : tokErr n p s.data.toList = 0
    · exact (read_yes (xt := x) b me n p s c w hn hs hp ht h hc0 hc1 hE).mono fun _ _ h' => ⟨_, _, _, h'.1, ⟨hp, .inr ⟨rfl, rfl⟩⟩, fun h => absurd rfl h, h'.2⟩
    · exact (read_stale (xt := x) b me n p s c w hn hs h hc0 hc1 hE).mono fun _ _ h' => ⟨[], _, [], h'.1, ⟨hp, .inl ⟨hE, rfl, rfl⟩⟩, fun _ => rfl, h'.2⟩
  · exact (read_no b s c w hy).mono fun _ _ h' => ⟨[], 1, [], h'.1, out_no hp, fun _ => rfl, by rw [h'.2]; exact Blw.rfl _⟩
end Go.Proofs.YtalaldfgjgpacaaDoor

namespace Go.Proofs.YtalaldfgjgpacaaDoor
set_option linter.unusedVariables false
set_option linter.unusedSimpArgs false
open Go.RowKit

/-- Everything below but blocks b and c is as it was. -/
structure B2 (b c : Nat) (a w : World) : Prop where
  os : w.os = a.os
  tape : w.tape = a.tape
  output : w.output = a.output
  size : a.heap.size ≤ w.heap.size
  block : ∀ k, k < a.heap.size → k ≠ b → k ≠ c → w.heap[k]? = a.heap[k]?

theorem Bx.b2l {b : Nat} {a w : World} (h : Bx b a w) (c : Nat) : B2 b c a w := ⟨h.os, h.tape, h.output, h.size, fun k hk hb _ => h.block k hk hb⟩
theorem Bx.b2r {c : Nat} {a w : World} (h : Bx c a w) (b : Nat) : B2 b c a w := ⟨h.os, h.tape, h.output, h.size, fun k hk _ hc => h.block k hk hc⟩
theorem Blw.b2 {a w : World} (h : Blw a w) (b c : Nat) : B2 b c a w := ⟨h.os, h.tape, h.output, h.size, fun k hk _ _ => h.block k hk⟩
theorem B2.tr {b c : Nat} {u v w : World} (h : B2 b c u v) (k : B2 b c v w) : B2 b c u w :=
  ⟨k.os.trans h.os, k.tape.trans h.tape, k.output.trans h.output, Nat.le_trans h.size k.size, fun i hi hb hc => (k.block i (Nat.lt_of_lt_of_le hi h.size) hb hc).trans (h.block i hi hb hc)⟩
theorem B2.keep {b c : Nat} {a w : World} (h : B2 b c a w) {k : Nat} {o : Obj} (hk : a.heap[k]? = some o) (hb : k ≠ b) (hc : k ≠ c) : w.heap[k]? = some o := (h.block k (lt_of_blk hk) hb hc).trans hk
theorem Bx.keep {b : Nat} {a w : World} (h : Bx b a w) {k : Nat} {o : Obj} (hk : a.heap[k]? = some o) (hb : k ≠ b) : w.heap[k]? = some o := (h.block k (lt_of_blk hk) hb).trans hk

/-- The post of asks. -/
def AskPost (cb b me n : Nat) (p : Pc) (x : Ext) (X K : Value) (last : Int) (lg st : List UInt8) (old : Value) (n1 n2 n3 cl : Int) (tok : List UInt8) (w : World) (e : Ending) (w' : World) : Prop :=
  ∃ p' x' ee tx l, e = .returned (.tuple #[.string ⟨tx.toArray⟩, .int .i64 ee]) ∧ Outcome n p p' ee tx ∧ (ee ≠ 0 → l = []) ∧ ((ee ≠ 0 → x' = x) ∧ x'.had ≤ x.had + 1 ∧ x'.log.length ≤ x.log.length + 400) ∧ w'.heap[b]? = some (.cells (repArr me n p' x') 67) ∧ w'.heap[cb]? = some (.cells (clArr n X K l 0 last lg st old n1 n2 n3 cl tok) 49) ∧ B2 b cb w w'

set_option maxRecDepth 100000 in
set_option maxHeartbeats 1000000 in
theorem asks_any (cb xb b me n : Nat) (K : Value) (p : Pc) (x : Ext) (hxs : x.small) (w : World) (last : Int) (lg st : List UInt8) (old : Value) (n1 n2 n3 cl : Int) (tok : List UInt8) (o : OpR) (hn : n ≤ 3) (hme : me < n) (hs : o.s.size ≤ maxLen) (hp : p.ok) (ht : Tab Tryd.prog w)
    (hc : w.heap[cb]? = some (.cells (clArr n (.slice (some ⟨xb, 0, none⟩) 1 1) K [] 0 last lg st old n1 n2 n3 cl tok) 49))
    (hx : w.heap[xb]? = some (.cells #[.pointer (some ⟨b, 0, none⟩)] 24)) (h : w.heap[b]? = some (.cells (repArr me n p x) 67)) (hcb : cb ≠ b) (hk : o.kind = 5 ∨ o.kind = 6 ∨ o.kind = 7) :
    Calls Tryd.prog 17 #[.pointer (some ⟨cb, 0, none⟩), .int .i64 0, .agg #[.int .i64 o.kind, .int .i64 o.r, .int .i64 o.t, .int .i64 o.a, .int .i64 o.b, .int .i64 o.c, .string o.s], .string o.s, .int .i64 o.a, .int .i64 o.b, .int .i64 o.c] w
      (AskPost cb b me n p x (.slice (some ⟨xb, 0, none⟩) 1 1) K last lg st old n1 n2 n3 cl tok w) := by
  obtain ⟨kd, r, t, a, bb, c, s⟩ := o
  simp only [] at hs hk ⊢
  have hbl := lt_of_blk h
  have g0 : (w.alloc (.cells #[.int .i64 kd, .int .i64 r, .int .i64 t, .int .i64 a, .int .i64 bb, .int .i64 c, .string s] 31)).heap[b]? = some (.cells (repArr me n p x) 67) := hp_old _ hbl h
  have g1 : (w.alloc (.cells #[.int .i64 kd, .int .i64 r, .int .i64 t, .int .i64 a, .int .i64 bb, .int .i64 c, .string s] 31)).heap[cb]? = some (.cells (clArr n (.slice (some ⟨xb, 0, none⟩) 1 1) K [] 0 last lg st old n1 n2 n3 cl tok) 49) := hp_old _ (lt_of_blk hc) hc
  have c2 : (w.alloc (.cells #[.int .i64 kd, .int .i64 r, .int .i64 t, .int .i64 a, .int .i64 bb, .int .i64 c, .string s] 31)).cell? ⟨cb, 2, none⟩ = some (.slice (some ⟨xb, 0, none⟩) 1 1) := by rw [blk_cell g1]; rfl
  have x0 : (w.alloc (.cells #[.int .i64 kd, .int .i64 r, .int .i64 t, .int .i64 a, .int .i64 bb, .int .i64 c, .string s] 31)).cell? ⟨xb, 0, none⟩ = some (.pointer (some ⟨b, 0, none⟩)) := by rw [blk_cell (hp_old _ (lt_of_blk hx) hx)]; rfl
  have G := hid (And.intro g0 (And.intro g1 (ht.blw ((Blw.rfl w).al (.cells #[.int .i64 kd, .int .i64 r, .int .i64 t, .int .i64 a, .int .i64 bb, .int .i64 c, .string s] 31)))))
  have HP := hid hp
  have HSS := hid hs
  clear hc hx h g0 g1 hp ht hs
  rcases hk with rfl | rfl | rfl
  · have HC := hid (remove_out b me n p x s a bb _ hn hme HSS.out HP.out G.out.1 hxs G.out.2.2)
    go_enter Tryd.func17, Tryd.ntmps17
    go_wp2_with fail
    refine HC.out.mono ?_
    rintro e w1 ⟨p', x', ee, tx, rfl, ho, hxx, hr⟩
    have FIN := hid (show AskPost cb b me n p x (.slice (some ⟨xb, 0, none⟩) 1 1) K last lg st old n1 n2 n3 cl tok w (.returned (.tuple #[.string ⟨tx.toArray⟩, .int .i64 ee])) w1 from
      ⟨p', x', ee, tx, [], rfl, ho, fun _ => rfl, hxx, hr.1, hr.2.keep G.out.2.1 hcb, (Blw.b2 ((Blw.rfl w).al _) b cb).tr (hr.2.b2l cb)⟩)
    clear ho hxx hr
    go_wp2
    go_ret2
    exact FIN.out
  · have HC := hid (clear_out b me n p x s a _ hn hme HSS.out HP.out G.out.1 hxs G.out.2.2)
    go_enter Tryd.func17, Tryd.ntmps17
    go_wp2_with fail
    refine HC.out.mono ?_
    rintro e w1 ⟨p', x', ee, tx, rfl, ho, hxx, hr⟩
    have FIN := hid (show AskPost cb b me n p x (.slice (some ⟨xb, 0, none⟩) 1 1) K last lg st old n1 n2 n3 cl tok w (.returned (.tuple #[.string ⟨tx.toArray⟩, .int .i64 ee])) w1 from
      ⟨p', x', ee, tx, [], rfl, ho, fun _ => rfl, hxx, hr.1, hr.2.keep G.out.2.1 hcb, (Blw.b2 ((Blw.rfl w).al _) b cb).tr (hr.2.b2l cb)⟩)
    clear ho hxx hr
    go_wp2
    go_ret2
    exact FIN.out
  · have HC := hid (read_out b me n p x s a _ hn HSS.out HP.out G.out.2.2 G.out.1)
    go_enter Tryd.func17, Tryd.ntmps17
    go_wp2_with fail
    refine HC.out.mono ?_
    rintro e w1 ⟨l, ee, tx, rfl, ho, hl, b1⟩
    have g := b1.bk' G.out.2.1
    have d9 : w1.cell? ⟨cb, 9, none⟩ = some (.string ⟨#[]⟩) := by rw [blk_cell g]; rfl
    have f9 := blk_frozen g 9
    have FIN := hid (show AskPost cb b me n p x (.slice (some ⟨xb, 0, none⟩) 1 1) K last lg st old n1 n2 n3 cl tok w (.returned (.tuple #[.string ⟨tx.toArray⟩, .int .i64 ee])) (w1.setCell ⟨cb, 9, none⟩ (.string ⟨l.toArray⟩)) from
      ⟨p, x, ee, tx, l, rfl, ho, hl, ⟨fun _ => rfl, by omega, by omega⟩, by rw [Below.heap_setCell _ _ _ _ (Ne.symm hcb)]; exact b1.bk' G.out.1, by rw [heap_setCell_self g]; rfl, (Blw.b2 ((Blw.rfl w).al _) b cb).tr (((Blw.bx b1 cb).scs 9 [_]).b2r b)⟩)
    clear ho hl b1 g
    go_wp2
    go_ret2
    exact FIN.out

def tok0 : ByteArray := ⟨#[48, 48, 48]⟩
def tok2 : ByteArray := ⟨#[50, 49, 48]⟩
def p1 : Pc := evPut 0 3 Pc.empty Pc.empty tok0.data.toList 0 0 5
theorem p1_ok : p1.ok := (out_put (n := 3) ok_empty ok_empty (by decide) (by decide) (by decide) (by decide) (by decide) (by decide)).1
theorem st_e1 : evErr 0 3 Pc.empty tok0.data.toList = 0 := by kernel_rfl
theorem st_t1 : evTok 0 3 Pc.empty p1 tok0.data.toList = [49, 48, 48] := by kernel_rfl
theorem st_e2 : evErr 0 3 p1 tok2.data.toList = 3 := by kernel_rfl
theorem st_s1 : p1.digsTo 3 ++ [59] ++ p1.entTo 12 = [49, 48, 48, 59, 97, 65, 48, 49, 43, 48, 53] := by kernel_rfl

set_option maxRecDepth 100000 in
set_option maxHeartbeats 1000000 in
theorem stands_any (w : World) (ht : Tab Tryd.prog w) : Calls Tryd.prog 15 #[] w fun e w' => e = .returned (.bool true) ∧ Blw w w' := by
  have HT := hid ht
  have HX1 : Hid ((evXp 0 3 Pc.empty Pc.empty Ext.zero tok0.data.toList 0 0 5).small) := by
    have := ext_of (x := Ext.zero) (x' := evXp 0 3 Pc.empty Pc.empty Ext.zero tok0.data.toList 0 0 5) rfl (ok_put ok_empty 0 (Pc.empty.count ((0 : Nat) : Int)) (c := 0) (it := 0) (v := 5) (by decide) (by decide) (by decide) (by decide) (by decide) (by decide))
    exact ⟨Nat.le_trans this.2.1 (by decide), Nat.le_trans this.2.2 (by decide)⟩
  have HN := hid (new_yes 0 3 w (by decide) (by decide))
  have hpn : ∀ wx : World, (binOp .eql 24 (.pointer (some ⟨w.heap.size, 0, none⟩)) (.pointer none)).run Tryd.prog wx = .ok (.bool false) wx := fun _ => by kernel_rfl
  have HA := hid (add_yes (xt := Ext.zero) w.heap.size 0 3 Pc.empty tok0 0 0 5 (w.alloc (.cells (repArr 0 3 Pc.empty Ext.zero) 67)) (by decide) (by decide) (by decide) (hp_new _ _) (by decide) (by decide) (by decide) (by decide) (by decide) (by decide) ⟨by decide, by decide⟩ (ht.blw ((Blw.rfl w).al _)))
  rw [show evPut 0 3 Pc.empty Pc.empty tok0.data.toList 0 0 5 = p1 from rfl, st_e1, st_t1] at HA
  have HA2 := hid (fun x1 wx hx hs1 ht1 => add_yes (xt := x1) w.heap.size 0 3 p1 tok2 0 0 1 wx (by decide) (by decide) (by decide) hx (by decide) (by decide) (by decide) (by decide) (by decide) (by decide) hs1 ht1)
  have HZ : Hid (∀ (x1 : Ext) wx, wx.heap[w.heap.size]? = some (.cells (repArr 0 3 p1 x1) 67) → x1.small → Tab Tryd.prog wx → Calls Tryd.prog 8 #[.pointer (some ⟨w.heap.size, 0, none⟩), .string tok2, .int .i64 0, .int .i64 0, .int .i64 1] wx fun e w' => e = .returned (.tuple #[.string ⟨#[]⟩, .int .i64 3]) ∧ RepTo w.heap.size 0 3 p1 x1 wx w') := fun x1 wx hx hs1 ht1 => (HA2.out x1 wx hx hs1 ht1).mono fun e w' h => by
    have hne : ¬ evErr 0 3 p1 tok2.data.toList = 0 := by rw [st_e2]; decide
    unfold evTok evPut evXp at h
    rw [if_neg hne, if_neg hne, if_neg hne, st_e2] at h
    exact h
  have HS := hid (fun (x1 : Ext) wx hx => state_any (xt := x1) w.heap.size 0 3 p1 wx (by decide) p1_ok hx)
  rw [st_s1] at HS
  unfold tok0 at HA
  unfold tok2 at HZ
  clear HA2 ht
  go_enter Tryd.func15, Tryd.ntmps15
  go_wp2_with fail
  refine HN.out.mono ?_
  rintro e w1 ⟨rfl, hw1⟩
  subst w1
  go_wp2_with fail
  refine HA.out.mono ?_
  rintro e w2 ⟨rfl, h2⟩
  have T2 := hid ((HT.out.blw ((Blw.rfl w).al (.cells (repArr 0 3 Pc.empty Ext.zero) 67))).bx (hp_new w _) h2.2)
  go_wp2_with fail
  refine (HZ.out _ _ h2.1 HX1.out (T2.out)).mono ?_
  rintro e w3 ⟨rfl, h3⟩
  go_wp2_with fail
  refine (HS.out _ _ h3.1).mono ?_
  rintro e w4 ⟨rfl, b4⟩
  go_wp2
  go_ret
  refine ⟨rfl, ?_⟩
  have hx : Bx w.heap.size (w.alloc (.cells (repArr 0 3 Pc.empty Ext.zero) 67)) w4 := (h2.2.tr h3.2).tr (b4.bx _)
  refine ⟨hx.os, hx.tape, hx.output, by have := hx.size; simp at this; omega, fun k hk => ?_⟩
  rw [hx.block k (by simp; omega) (by omega), Below.heap_alloc _ _ _ hk]
end Go.Proofs.YtalaldfgjgpacaaDoor
