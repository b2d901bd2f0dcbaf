import Derived.Test.YtalehfacchjlkaaDoorW18
namespace Go.Proofs.YtalehfacchjlkaaDoor
set_option linter.unusedVariables false
set_option linter.unusedSimpArgs false
open Go.RowKit

set_option maxRecDepth 100000 in
set_option maxHeartbeats 1000000 in
theorem still_any (cb xb b me n : Nat) (K : Value) (p q : Pc) (w : World) (said : List UInt8) (err last : Int) (old : Value) (n1 n2 n3 cl : Int) (tok : List UInt8) (hn : n ≤ 3) (hp : p.ok)
    (hc : w.heap[cb]? = some (.cells (clArr n (.slice (some ⟨xb, 0, none⟩) 1 1) K said err last [] (q.digsTo n ++ [59] ++ q.entTo 12) old n1 n2 n3 cl tok) 49))
    (hx : w.heap[xb]? = some (.cells #[.pointer (some ⟨b, 0, none⟩)] 24)) (h : w.heap[b]? = some (.cells (repArr me n p) 65)) :
    Calls Tryd.prog 18 #[.pointer (some ⟨cb, 0, none⟩), .int .i64 0] w fun e w' => e = .returned (.bool (p.digsTo n ++ [59] ++ p.entTo 12 == q.digsTo n ++ [59] ++ q.entTo 12)) ∧ Blw w w' := by
  have HS := hid (state_any b me n p w hn hp h)
  generalize p.digsTo n ++ [59] ++ p.entTo 12 = stx at *
  generalize q.digsTo n ++ [59] ++ q.entTo 12 = stq at *
  have c2 : w.cell? ⟨cb, 2, none⟩ = some (.slice (some ⟨xb, 0, none⟩) 1 1) := by rw [blk_cell hc]; rfl
  have x0 : w.cell? ⟨xb, 0, none⟩ = some (.pointer (some ⟨b, 0, none⟩)) := by rw [blk_cell hx]; rfl
  have HC := hid hc
  clear hc hx h hp
  go_enter Tryd.func18, Tryd.ntmps18
  go_wp2_with fail
  refine (log_any b _).mono ?_
  rintro e w0 ⟨rfl, hw0⟩
  subst w0
  go_wp2_with fail
  refine HS.out.mono ?_
  rintro e w1 ⟨rfl, b1⟩
  have g := b1.bk' HC.out
  have c12 : w1.cell? ⟨cb, 12, none⟩ = some (.string ⟨#[]⟩) := by rw [blk_cell g]; rfl
  have c13 : w1.cell? ⟨cb, 13, none⟩ = some (.string ⟨stq.toArray⟩) := by rw [blk_cell g]; rfl
  have B1 := hid b1
  clear c2 x0 b1 g
  go_wp2
  go_ret
  exact ⟨rfl, B1.out⟩

theorem ok_empty : Pc.empty.ok := fun r i _ _ h => by cases h
theorem ok_dotsOf (p : Pc) (c it : Int) : (p.dotsOf c it).ok := fun r i _ _ h => by
  unfold Pc.dotsOf at h
  split at h <;> cases h
theorem joinSl_or (a b : Sl) : joinSl a b = a ∨ joinSl a b = b ∨ joinSl a b = ⟨true, false, 0, 0, 0⟩ := by
  unfold joinSl
  cases a.known
  · exact .inr (.inl rfl)
  · simp only [if_true]
    split
    · exact .inl rfl
    · exact .inr (.inr rfl)
theorem ok_join {p q : Pc} (hp : p.ok) (hq : q.ok) : (p.join q).ok := by
  intro r i hr hi h
  unfold Pc.join at h ⊢
  rcases joinSl_or (p r i) (q r i) with e | e | e
  · rw [e] at h ⊢; exact hp r i hr hi h
  · rw [e] at h ⊢; exact hq r i hr hi h
  · rw [e] at h; cases h
theorem ok_put {p : Pc} (hp : p.ok) (k m : Nat) {c it v : Int} (hc0 : 0 ≤ c) (hc1 : c < 3) (hi0 : 0 ≤ it) (hi1 : it < 4) (hv0 : -99 ≤ v) (hv1 : v ≤ 99) : (p.put k m ⟨true, true, c, it, v⟩).ok := by
  intro r i hr hi h
  unfold Pc.put at h ⊢
  by_cases e : r = k ∧ i = m
  · simp only [e, and_self, if_true] at h ⊢; exact ⟨trivial, hc0, hc1, hi0, hi1, hv0, hv1⟩
  · rw [if_neg e] at h ⊢; exact hp r i hr hi h
theorem ok_putk {p : Pc} (hp : p.ok) (k m : Nat) : (p.put k m { p k m with known := true }).ok := by
  intro r i hr hi h
  unfold Pc.put at h ⊢
  by_cases e : r = k ∧ i = m
  · obtain ⟨rfl, rfl⟩ := e
    simp only [and_self, if_true] at h ⊢
    have := hp r i hr hi h
    exact ⟨trivial, this.2⟩
  · rw [if_neg e] at h ⊢; exact hp r i hr hi h
theorem ok_cartTo (p : Pc) (c : Int) (k : Nat) : (p.cartTo c k).ok := by
  induction k with
  | zero => exact ok_empty
  | succ k ih => exact ok_join ih (ok_dotsOf p c _)

/-- What a call with a token may come to. -/
def Outcome (n : Nat) (p p' : Pc) (ee : Int) (tx : List UInt8) : Prop := p'.ok ∧ ((ee ≠ 0 ∧ p' = p ∧ tx = []) ∨ (ee = 0 ∧ tx = p'.digsTo n))

theorem out_put {me n : Nat} {p t : Pc} {l : List UInt8} {c it v : Int} (hp : p.ok) (ht : t.ok) (hc0 : 0 ≤ c) (hc1 : c < 3) (hi0 : 0 ≤ it) (hi1 : it < 4) (hv0 : -99 ≤ v) (hv1 : v ≤ 99) :
    Outcome n p (evPut me n p t l c it v) (evErr me n p l) (evTok me n p (evPut me n p t l c it v) l) := by
  by_cases hE : evErr me n p l = 0
  · refine ⟨?_, .inr ⟨hE, by unfold evTok; rw [if_pos hE]⟩⟩
    unfold evPut; rw [if_pos hE]
    exact ok_join hp (ok_put ht _ _ hc0 hc1 hi0 hi1 hv0 hv1)
  · refine ⟨?_, .inl ⟨hE, by unfold evPut; rw [if_neg hE], by unfold evTok; rw [if_neg hE]⟩⟩
    unfold evPut; rw [if_neg hE]; exact hp
theorem out_take {me n : Nat} {p t : Pc} {l : List UInt8} (hp : p.ok) (ht : t.ok) :
    Outcome n p (evTake me n p t l) (evErr me n p l) (evTok me n p (evTake me n p t l) l) := by
  by_cases hE : evErr me n p l = 0
  · refine ⟨?_, .inr ⟨hE, by unfold evTok; rw [if_pos hE]⟩⟩
    unfold evTake; rw [if_pos hE]
    exact ok_join hp (ok_putk ht _ _)
  · refine ⟨?_, .inl ⟨hE, by unfold evTake; rw [if_neg hE], by unfold evTok; rw [if_neg hE]⟩⟩
    unfold evTake; rw [if_neg hE]; exact hp
theorem out_no {n : Nat} {p : Pc} (hp : p.ok) : Outcome n p p 1 [] := ⟨hp, .inl ⟨by decide, rfl, rfl⟩⟩

/-- The post of such a call. -/
def OutPost (b me n : Nat) (p : Pc) (w : World) (e : Ending) (w' : World) : Prop := ∃ p' ee tx, e = .returned (.tuple #[.string ⟨tx.toArray⟩, .int .i64 ee]) ∧ Outcome n p p' ee tx ∧ RepTo b me n p' w w'

theorem add_out (b me n : Nat) (p : Pc) (s : ByteArray) (c it v : Int) (w : World) (hn : n ≤ 3) (hme : me < n) (hs : s.size ≤ maxLen) (hp : p.ok) (h : w.heap[b]? = some (.cells (repArr me n p) 65)) :
    Calls Tryd.prog 8 #[.pointer (some ⟨b, 0, none⟩), .string s, .int .i64 c, .int .i64 it, .int .i64 v] w (OutPost b me n p w) := by
  by_cases hy : 0 ≤ c ∧ c < 3 ∧ 0 ≤ it ∧ it < 4 ∧ -99 ≤ v ∧ v ≤ 99
  · obtain ⟨hc0, hc1, hi0, hi1, hv0, hv1⟩ := hy
    exact (add_yes b me n p s c it v w hn hme hs h hc0 hc1 hi0 hi1 hv0 hv1).mono fun _ _ h' => ⟨_, _, _, h'.1, out_put hp ok_empty hc0 hc1 hi0 hi1 hv0 hv1, h'.2⟩
  · exact (add_no b s c it v w hy).mono fun _ _ h' => ⟨p, 1, [], h'.1, out_no hp, by rw [h'.2]; exact RepTo.blw h (Blw.rfl _)⟩
theorem set_out (b me n : Nat) (p : Pc) (s : ByteArray) (c it v : Int) (w : World) (hn : n ≤ 3) (hme : me < n) (hs : s.size ≤ maxLen) (hp : p.ok) (h : w.heap[b]? = some (.cells (repArr me n p) 65)) :
    Calls Tryd.prog 9 #[.pointer (some ⟨b, 0, none⟩), .string s, .int .i64 c, .int .i64 it, .int .i64 v] w (OutPost b me n p w) := by
  by_cases hy : 0 ≤ c ∧ c < 3 ∧ 0 ≤ it ∧ it < 4 ∧ 0 ≤ v ∧ v ≤ 99
  · obtain ⟨hc0, hc1, hi0, hi1, hv0, hv1⟩ := hy
    exact (set_yes b me n p s c it v w hn hme hs h hc0 hc1 hi0 hi1 hv0 hv1).mono fun _ _ h' => ⟨_, _, _, h'.1, out_put hp (ok_dotsOf p c it) hc0 hc1 hi0 hi1 (by omega) hv1, h'.2⟩
  · exact (set_no b s c it v w hy).mono fun _ _ h' => ⟨p, 1, [], h'.1, out_no hp, by rw [h'.2]; exact RepTo.blw h (Blw.rfl _)⟩
theorem remove_out (b me n : Nat) (p : Pc) (s : ByteArray) (c it : Int) (w : World) (hn : n ≤ 3) (hme : me < n) (hs : s.size ≤ maxLen) (hp : p.ok) (h : w.heap[b]? = some (.cells (repArr me n p) 65)) :
    Calls Tryd.prog 10 #[.pointer (some ⟨b, 0, none⟩), .string s, .int .i64 c, .int .i64 it] w (OutPost b me n p w) := by
  by_cases hy : 0 ≤ c ∧ c < 3 ∧ 0 ≤ it ∧ it < 4
  · obtain ⟨hc0, hc1, hi0, hi1⟩ := hy
    exact (remove_yes b me n p s c it w hn hme hs h hc0 hc1 hi0 hi1).mono fun _ _ h' => ⟨_, _, _, h'.1, out_take hp (ok_dotsOf p c it), h'.2⟩
  · exact (remove_no b s c it w hy).mono fun _ _ h' => ⟨p, 1, [], h'.1, out_no hp, by rw [h'.2]; exact RepTo.blw h (Blw.rfl _)⟩
theorem clear_out (b me n : Nat) (p : Pc) (s : ByteArray) (c : Int) (w : World) (hn : n ≤ 3) (hme : me < n) (hs : s.size ≤ maxLen) (hp : p.ok) (h : w.heap[b]? = some (.cells (repArr me n p) 65)) :
    Calls Tryd.prog 11 #[.pointer (some ⟨b, 0, none⟩), .string s, .int .i64 c] w (OutPost b me n p w) := by
  by_cases hy : 0 ≤ c ∧ c < 3
  · obtain ⟨hc0, hc1⟩ := hy
    exact (clear_yes b me n p s c w hn hme hs h hc0 hc1).mono fun _ _ h' => ⟨_, _, _, h'.1, out_take hp (ok_cartTo p c 4), h'.2⟩
  · exact (clear_no b s c w hy).mono fun _ _ h' => ⟨p, 1, [], h'.1, out_no hp, by rw [h'.2]; exact RepTo.blw h (Blw.rfl _)⟩
theorem read_out (b me n : Nat) (p : Pc) (s : ByteArray) (c : Int) (w : World) (hn : n ≤ 3) (hs : s.size ≤ maxLen) (hp : p.ok) (ht : Tab Tryd.prog w) (h : w.heap[b]? = some (.cells (repArr me n p) 65)) :
    Calls Tryd.prog 12 #[.pointer (some ⟨b, 0, none⟩), .string s, .int .i64 c] w fun e w' => ∃ l ee tx, e = .returned (.tuple #[.string ⟨l.toArray⟩, .string ⟨tx.toArray⟩, .int .i64 ee]) ∧ Outcome n p p ee tx ∧ (ee ≠ 0 → l = []) ∧ Blw w w' := by
  by_cases hy : 0 ≤ c ∧ c < 3
  · obtain ⟨hc0, hc1⟩ := hy
    by_cases hE : tokErr n p s.data.toList = 0
    · exact (read_yes b me n p s c w hn hs hp ht h hc0 hc1 hE).mono fun _ _ h' => ⟨_, _, _, h'.1, ⟨hp, .inr ⟨rfl, rfl⟩⟩, fun h => absurd rfl h, h'.2⟩
    · exact (read_stale b me n p s c w hn hs h hc0 hc1 hE).mono fun _ _ h' => ⟨[], _, [], h'.1, ⟨hp, .inl ⟨hE, rfl, rfl⟩⟩, fun _ => rfl, h'.2⟩
  · exact (read_no b s c w hy).mono fun _ _ h' => ⟨[], 1, [], h'.1, out_no hp, fun _ => rfl, by rw [h'.2]; exact Blw.rfl _⟩
end Go.Proofs.YtalehfacchjlkaaDoor
