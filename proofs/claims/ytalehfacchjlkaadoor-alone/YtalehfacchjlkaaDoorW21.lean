import Derived.Test.YtalehfacchjlkaaDoorW20
namespace Go.Proofs.YtalehfacchjlkaaDoor
set_option linter.unusedVariables false
set_option linter.unusedSimpArgs false
open Go.RowKit

/-- Everything below but blocks b and c is as it was. -/
structure B2 (b c : Nat) (a w : World) : Prop where
  os : w.os = a.os
  tape : w.tape = a.tape
  output : w.output = a.output
  size : a.heap.size ≤ w.heap.size
  block : ∀ k, k < a.heap.size → k ≠ b → k ≠ c → w.heap[k]? = a.heap[k]?

theorem Bx.b2l {b : Nat} {a w : World} (h : Bx b a w) (c : Nat) : B2 b c a w := ⟨h.os, h.tape, h.output, h.size, fun k hk hb _ => h.block k hk hb⟩
theorem Bx.b2r {c : Nat} {a w : World} (h : Bx c a w) (b : Nat) : B2 b c a w := ⟨h.os, h.tape, h.output, h.size, fun k hk _ hc => h.block k hk hc⟩
theorem Blw.b2 {a w : World} (h : Blw a w) (b c : Nat) : B2 b c a w := ⟨h.os, h.tape, h.output, h.size, fun k hk _ _ => h.block k hk⟩
theorem B2.tr {b c : Nat} {u v w : World} (h : B2 b c u v) (k : B2 b c v w) : B2 b c u w :=
  ⟨k.os.trans h.os, k.tape.trans h.tape, k.output.trans h.output, Nat.le_trans h.size k.size, fun i hi hb hc => (k.block i (Nat.lt_of_lt_of_le hi h.size) hb hc).trans (h.block i hi hb hc)⟩
theorem B2.keep {b c : Nat} {a w : World} (h : B2 b c a w) {k : Nat} {o : Obj} (hk : a.heap[k]? = some o) (hb : k ≠ b) (hc : k ≠ c) : w.heap[k]? = some o := (h.block k (lt_of_blk hk) hb hc).trans hk
theorem Bx.keep {b : Nat} {a w : World} (h : Bx b a w) {k : Nat} {o : Obj} (hk : a.heap[k]? = some o) (hb : k ≠ b) : w.heap[k]? = some o := (h.block k (lt_of_blk hk) hb).trans hk

/-- The post of asks. -/
def AskPost (cb b me n : Nat) (p : Pc) (X K : Value) (last : Int) (lg st : List UInt8) (old : Value) (n1 n2 n3 cl : Int) (tok : List UInt8) (w : World) (e : Ending) (w' : World) : Prop :=
  ∃ p' ee tx l, e = .returned (.tuple #[.string ⟨tx.toArray⟩, .int .i64 ee]) ∧ Outcome n p p' ee tx ∧ (ee ≠ 0 → l = []) ∧ w'.heap[b]? = some (.cells (repArr me n p') 65) ∧ w'.heap[cb]? = some (.cells (clArr n X K l 0 last lg st old n1 n2 n3 cl tok) 49) ∧ B2 b cb w w'

set_option maxRecDepth 100000 in
set_option maxHeartbeats 1000000 in
theorem asks_any (cb xb b me n : Nat) (K : Value) (p : Pc) (w : World) (last : Int) (lg st : List UInt8) (old : Value) (n1 n2 n3 cl : Int) (tok : List UInt8) (o : OpR) (hn : n ≤ 3) (hme : me < n) (hs : o.s.size ≤ maxLen) (hp : p.ok) (ht : Tab Tryd.prog w)
    (hc : w.heap[cb]? = some (.cells (clArr n (.slice (some ⟨xb, 0, none⟩) 1 1) K [] 0 last lg st old n1 n2 n3 cl tok) 49))
    (hx : w.heap[xb]? = some (.cells #[.pointer (some ⟨b, 0, none⟩)] 24)) (h : w.heap[b]? = some (.cells (repArr me n p) 65)) (hcb : cb ≠ b) (hk : o.kind = 5 ∨ o.kind = 6 ∨ o.kind = 7) :
    Calls Tryd.prog 17 #[.pointer (some ⟨cb, 0, none⟩), .int .i64 0, .agg #[.int .i64 o.kind, .int .i64 o.r, .int .i64 o.t, .int .i64 o.a, .int .i64 o.b, .int .i64 o.c, .string o.s], .string o.s, .int .i64 o.a, .int .i64 o.b, .int .i64 o.c] w
      (AskPost cb b me n p (.slice (some ⟨xb, 0, none⟩) 1 1) K last lg st old n1 n2 n3 cl tok w) := by
  obtain ⟨kd, r, t, a, bb, c, s⟩ := o
  simp only [] at hs hk ⊢
  have hbl := lt_of_blk h
  have g0 : (w.alloc (.cells #[.int .i64 kd, .int .i64 r, .int .i64 t, .int .i64 a, .int .i64 bb, .int .i64 c, .string s] 31)).heap[b]? = some (.cells (repArr me n p) 65) := hp_old _ hbl h
  have g1 : (w.alloc (.cells #[.int .i64 kd, .int .i64 r, .int .i64 t, .int .i64 a, .int .i64 bb, .int .i64 c, .string s] 31)).heap[cb]? = some (.cells (clArr n (.slice (some ⟨xb, 0, none⟩) 1 1) K [] 0 last lg st old n1 n2 n3 cl tok) 49) := hp_old _ (lt_of_blk hc) hc
  have c2 : (w.alloc (.cells #[.int .i64 kd, .int .i64 r, .int .i64 t, .int .i64 a, .int .i64 bb, .int .i64 c, .string s] 31)).cell? ⟨cb, 2, none⟩ = some (.slice (some ⟨xb, 0, none⟩) 1 1) := by rw [blk_cell g1]; rfl
  have x0 : (w.alloc (.cells #[.int .i64 kd, .int .i64 r, .int .i64 t, .int .i64 a, .int .i64 bb, .int .i64 c, .string s] 31)).cell? ⟨xb, 0, none⟩ = some (.pointer (some ⟨b, 0, none⟩)) := by rw [blk_cell (hp_old _ (lt_of_blk hx) hx)]; rfl
  have G := hid (And.intro g0 (And.intro g1 (ht.blw ((Blw.rfl w).al (.cells #[.int .i64 kd, .int .i64 r, .int .i64 t, .int .i64 a, .int .i64 bb, .int .i64 c, .string s] 31)))))
  have HP := hid hp
  have HSS := hid hs
  clear hc hx h g0 g1 hp ht hs
  rcases hk with rfl | rfl | rfl
  · have HC := hid (remove_out b me n p s a bb _ hn hme HSS.out HP.out G.out.1)
    go_enter Tryd.func17, Tryd.ntmps17
    go_wp2_with fail
    refine HC.out.mono ?_
    rintro e w1 ⟨p', ee, tx, rfl, ho, hr⟩
    have FIN := hid (show AskPost cb b me n p (.slice (some ⟨xb, 0, none⟩) 1 1) K last lg st old n1 n2 n3 cl tok w (.returned (.tuple #[.string ⟨tx.toArray⟩, .int .i64 ee])) w1 from
      ⟨p', ee, tx, [], rfl, ho, fun _ => rfl, hr.1, hr.2.keep G.out.2.1 hcb, (Blw.b2 ((Blw.rfl w).al _) b cb).tr (hr.2.b2l cb)⟩)
    clear ho hr
    go_wp2
    go_ret2
    exact FIN.out
  · have HC := hid (clear_out b me n p s a _ hn hme HSS.out HP.out G.out.1)
    go_enter Tryd.func17, Tryd.ntmps17
    go_wp2_with fail
    refine HC.out.mono ?_
    rintro e w1 ⟨p', ee, tx, rfl, ho, hr⟩
    have FIN := hid (show AskPost cb b me n p (.slice (some ⟨xb, 0, none⟩) 1 1) K last lg st old n1 n2 n3 cl tok w (.returned (.tuple #[.string ⟨tx.toArray⟩, .int .i64 ee])) w1 from
      ⟨p', ee, tx, [], rfl, ho, fun _ => rfl, hr.1, hr.2.keep G.out.2.1 hcb, (Blw.b2 ((Blw.rfl w).al _) b cb).tr (hr.2.b2l cb)⟩)
    clear ho hr
    go_wp2
    go_ret2
    exact FIN.out
  · have HC := hid (read_out b me n p s a _ hn HSS.out HP.out G.out.2.2 G.out.1)
    go_enter Tryd.func17, Tryd.ntmps17
    go_wp2_with fail
    refine HC.out.mono ?_
    rintro e w1 ⟨l, ee, tx, rfl, ho, hl, b1⟩
    have g := b1.bk' G.out.2.1
    have d9 : w1.cell? ⟨cb, 9, none⟩ = some (.string ⟨#[]⟩) := by rw [blk_cell g]; rfl
    have f9 := blk_frozen g 9
    have FIN := hid (show AskPost cb b me n p (.slice (some ⟨xb, 0, none⟩) 1 1) K last lg st old n1 n2 n3 cl tok w (.returned (.tuple #[.string ⟨tx.toArray⟩, .int .i64 ee])) (w1.setCell ⟨cb, 9, none⟩ (.string ⟨l.toArray⟩)) from
      ⟨p, ee, tx, l, rfl, ho, hl, by rw [Below.heap_setCell _ _ _ _ (Ne.symm hcb)]; exact b1.bk' G.out.1, by rw [heap_setCell_self g]; rfl, (Blw.b2 ((Blw.rfl w).al _) b cb).tr (((Blw.bx b1 cb).scs 9 [_]).b2r b)⟩)
    clear ho hl b1 g
    go_wp2
    go_ret2
    exact FIN.out

def tok0 : ByteArray := ⟨#[48, 48, 48]⟩
def tok2 : ByteArray := ⟨#[50, 49, 48]⟩
def p1 : Pc := evPut 0 3 Pc.empty Pc.empty tok0.data.toList 0 0 5
theorem p1_ok : p1.ok := (out_put (n := 3) ok_empty ok_empty (by decide) (by decide) (by decide) (by decide) (by decide) (by decide)).1
theorem st_e1 : evErr 0 3 Pc.empty tok0.data.toList = 0 := by kernel_rfl
theorem st_t1 : evTok 0 3 Pc.empty p1 tok0.data.toList = [49, 48, 48] := by kernel_rfl
theorem st_e2 : evErr 0 3 p1 tok2.data.toList = 3 := by kernel_rfl
theorem st_s1 : p1.digsTo 3 ++ [59] ++ p1.entTo 12 = [49, 48, 48, 59, 97, 65, 48, 49, 43, 48, 53] := by kernel_rfl

set_option maxRecDepth 100000 in
set_option maxHeartbeats 1000000 in
theorem stands_any (w : World) : Calls Tryd.prog 15 #[] w fun e w' => e = .returned (.bool true) ∧ Blw w w' := by
  have HN := hid (new_yes 0 3 w (by decide) (by decide))
  have hpn : ∀ wx : World, (binOp .eql 24 (.pointer (some ⟨w.heap.size, 0, none⟩)) (.pointer none)).run Tryd.prog wx = .ok (.bool false) wx := fun _ => by kernel_rfl
  have HA := hid (add_yes w.heap.size 0 3 Pc.empty tok0 0 0 5 (w.alloc (.cells (repArr 0 3 Pc.empty) 65)) (by decide) (by decide) (by decide) (hp_new _ _) (by decide) (by decide) (by decide) (by decide) (by decide) (by decide))
  rw [show evPut 0 3 Pc.empty Pc.empty tok0.data.toList 0 0 5 = p1 from rfl, st_e1, st_t1] at HA
  have HA2 := hid (fun wx hx => add_yes w.heap.size 0 3 p1 tok2 0 0 1 wx (by decide) (by decide) (by decide) hx (by decide) (by decide) (by decide) (by decide) (by decide) (by decide))
  have HZ : Hid (∀ wx, wx.heap[w.heap.size]? = some (.cells (repArr 0 3 p1) 65) → Calls Tryd.prog 8 #[.pointer (some ⟨w.heap.size, 0, none⟩), .string tok2, .int .i64 0, .int .i64 0, .int .i64 1] wx fun e w' => e = .returned (.tuple #[.string ⟨#[]⟩, .int .i64 3]) ∧ RepTo w.heap.size 0 3 p1 wx w') := fun wx hx => (HA2.out wx hx).mono fun e w' h => by
    have hne : ¬ evErr 0 3 p1 tok2.data.toList = 0 := by rw [st_e2]; decide
    unfold evTok evPut at h
    rw [if_neg hne, if_neg hne, st_e2] at h
    exact h
  have HS := hid (fun wx hx => state_any w.heap.size 0 3 p1 wx (by decide) p1_ok hx)
  rw [st_s1] at HS
  unfold tok0 at HA
  unfold tok2 at HZ
  clear HA2
  go_enter Tryd.func15, Tryd.ntmps15
  go_wp2_with fail
  refine HN.out.mono ?_
  rintro e w1 ⟨rfl, hw1⟩
  subst w1
  go_wp2_with fail
  refine HA.out.mono ?_
  rintro e w2 ⟨rfl, h2⟩
  go_wp2_with fail
  refine (HZ.out _ h2.1).mono ?_
  rintro e w3 ⟨rfl, h3⟩
  go_wp2_with fail
  refine (HS.out _ h3.1).mono ?_
  rintro e w4 ⟨rfl, b4⟩
  go_wp2
  go_ret
  refine ⟨rfl, ?_⟩
  have hx : Bx w.heap.size (w.alloc (.cells (repArr 0 3 Pc.empty) 65)) w4 := (h2.2.tr h3.2).tr (b4.bx _)
  refine ⟨hx.os, hx.tape, hx.output, by have := hx.size; simp at this; omega, fun k hk => ?_⟩
  rw [hx.block k (by simp; omega) (by omega), Below.heap_alloc _ _ _ hk]
end Go.Proofs.YtalehfacchjlkaaDoor
