import Derived.Test.YtalaldfgjgpacabGreatDoorHAJ
import Derived.Test.YtalaldfgjgpacabGreatDoorHAQ
import Derived.Test.YtalaldfgjgpacabGreatDoorHAS
namespace Go.Proofs.YtalaldfgjgpacabGreatDoor
set_option linter.unusedVariables false
set_option linter.unusedSimpArgs false
open Go.RowKit

theorem Bx.blw1 {c : Nat} {a0 a w' : World} (h : Bx c a w') (h0 : Blw a0 a) (hc : a0.heap.size ≤ c) : Blw a0 w' :=
  ⟨h.os.trans h0.os, h.tape.trans h0.tape, h.output.trans h0.output, Nat.le_trans h0.sz h.size, fun k hk => (h.block k (Nat.lt_of_lt_of_le hk h0.sz) (by omega)).trans (h0.block k hk)⟩

/-- The events, in one. -/
theorem asks_ev (cb xb b me n r cx : Nat) (mode : Int) (p : Pc) (x : Ext) (hxs : x.small) (xa : Array Value) (tx : TypeId) (K E W A T O : Value) (w : World) (said : Bs) (err last : Int) (lg st : Bs) (old : Value) (n1 n2 n3 cl : Int) (tok : Bs) (kd r0 t0 a0 b0 c0 : Int) (s0 s : ByteArray) (c it v : Int) (hk : 3 ≤ kd ∧ kd ≤ 6) (hn : n ≤ 3) (hme : me < n) (hr : r < n) (hs : s.size ≤ maxLen) (ht : Tab Tryz.prog w)
    (hc0 : 0 ≤ c) (hc1 : c < 3) (hi0 : 0 ≤ it) (hi1 : it < 4) (hv0 : -99 ≤ v) (hv1 : v ≤ 99)
    (hc : w.heap[cb]? = some (.cells (clA n mode (.slice (some ⟨xb, 0, none⟩) n cx) K E W A T O said err last lg st old n1 n2 n3 cl tok) 39))
    (hx : w.heap[xb]? = some (.cells xa tx)) (hxr : xa[r]? = some (.pointer (some ⟨b, 0, none⟩))) (h : w.heap[b]? = some (.cells (repArr me n p x) 74)) :
    Calls Tryz.prog 48 #[.pointer (some ⟨cb, 0, none⟩), .int .i64 r, .agg #[.int .i64 kd, .int .i64 r0, .int .i64 t0, .int .i64 a0, .int .i64 b0, .int .i64 c0, .string s0], .string s, .int .i64 c, .int .i64 it, .int .i64 v] w (AskEv b me n p x kd c it v s.data.toList w) := by
  have hkk : kd = 3 ∨ kd = 4 ∨ kd = 5 ∨ kd = 6 := by omega
  rcases hkk with rfl | rfl | rfl | rfl
  · exact asks_add cb xb b me n r cx mode p x hxs xa tx K E W A T O w said err last lg st old n1 n2 n3 cl tok r0 t0 a0 b0 c0 s0 s c it v hn hme hr hs ht hc0 hc1 hi0 hi1 hv0 hv1 hc hx hxr h
  · exact asks_set cb xb b me n r cx mode p x hxs xa tx K E W A T O w said err last lg st old n1 n2 n3 cl tok r0 t0 a0 b0 c0 s0 s c it v hn hme hr hs ht hc0 hc1 hi0 hi1 hv0 hv1 hc hx hxr h
  · exact asks_remove cb xb b me n r cx mode p x hxs xa tx K E W A T O w said err last lg st old n1 n2 n3 cl tok r0 t0 a0 b0 c0 s0 s c it v hn hme hr hs ht hc0 hc1 hi0 hi1 hv0 hv1 hc hx hxr h
  · exact asks_clear cb xb b me n r cx mode p x hxs xa tx K E W A T O w said err last lg st old n1 n2 n3 cl tok r0 t0 a0 b0 c0 s0 s c it v hn hme hr hs ht hc0 hc1 hi0 hi1 hv0 hv1 hc hx hxr h

/-- So many noughts are a token that no replica is behind. -/
theorem tok_noughts (n : Nat) (p : Pc) : isTok n (noughtsL n) = true ∧ tokErr n p (noughtsL n) = 0 := by
  have h1 : isTok n (noughtsL n) = true := by
    simp [isTok, noughtsL, isDigB]
  have h2 : ∀ k, staleTo p (noughtsL n) k = false := by
    intro k
    induction k with
    | zero => rfl
    | succ k ih =>
      rw [staleTo, ih, Bool.false_or, decide_eq_false_iff_not]
      have : ((noughtsL n).getD k 0).toNat ≤ 48 := by
        unfold noughtsL
        by_cases hk : k < n
        · simp [List.getD, List.getElem?_replicate, hk]
        · simp [List.getD, List.getElem?_replicate, hk]
      omega
  exact ⟨h1, by rw [tokErr, h1, h2]; rfl⟩

theorem noughts_at (n k : Nat) (h : k < (ByteArray.mk (noughtsL n).toArray).size) : 48 ≤ (((ByteArray.mk (noughtsL n).toArray)[k]).toNat : Int) ∧ (((ByteArray.mk (noughtsL n).toArray)[k]).toNat : Int) ≤ 57 := by
  have hs : (noughtsL n)[k]'(by simpa [ByteArray.size] using h) = 48 := by simp [noughtsL]
  have e : (ByteArray.mk (noughtsL n).toArray)[k] = 48 := by
    rw [← hs]; rfl
  rw [e]; decide
theorem noughts_size (n : Nat) : (ByteArray.mk (noughtsL n).toArray).size = n := by simp [noughtsL, ByteArray.size]
/-- No client that has seen nothing is ahead of a replica. -/
theorem stale_noughts (ks : List Int) (n : Nat) (h : ∀ i, i < n → 0 ≤ ks.getD i 0) : ∀ k, k ≤ n → staleK ks (noughtsL n) k = false := by
  intro k
  induction k with
  | zero => intro _; rfl
  | succ k ih =>
    intro hk
    rw [staleK, ih (by omega), Bool.false_or, decide_eq_false_iff_not]
    have : ((noughtsL n).getD k 0).toNat = 48 := by
      unfold noughtsL
      simp [List.getD, List.getElem?_replicate, show k < n by omega]
    have := h k (by omega)
    omega
end Go.Proofs.YtalaldfgjgpacabGreatDoor

namespace Go.Proofs.YtalaldfgjgpacabGreatDoor
set_option linter.unusedVariables false
set_option linter.unusedSimpArgs false

/-- A cluster: all of it, less where it lies. -/
structure CS where
  n : Nat
  mode : Int
  p : Nat → Pc
  x : Nat → Ext
  K : Nat → Vec
  evs : List Ev
  wire : List Mail
  acks : List Mail
  toks : Nat → Bs
  owns : Nat → Bs
  said : Bs
  err : Int
  last : Int
  lg : Bs
  st : Bs
  old : Vec
  nevs : Nat
  nwire : Nat
  nacks : Nat
  client : Int
  tok : Bs

/-- What there is ahead of a call. -/
def CS.ahead (s : CS) (r : Nat) : CS := { s with last := r, lg := (s.x r).log, st := stL (s.p r) s.n, old := s.K r, nevs := s.evs.length, nwire := s.wire.length, nacks := s.acks.length, client := -1, said := [], err := 0 }

def CS.token (s : CS) (r who : Nat) : Bs := if s.mode = 2 then s.toks who else if s.mode = 1 then s.owns r else noughtsL s.n
def evVal (kd v : Int) : Int := if kd = 4 then (v.natAbs : Int) else v

/-- An event that a client asks for: refused; done. -/
def CS.refused (s : CS) (who : Nat) (er : Int) : CS := { s with client := who, tok := s.toks who, err := er }
def CS.event (s : CS) (r who : Nat) (kd c it v : Int) : CS :=
  let d := askDelta r (s.p r) kd c it v
  let t := ((s.p r).join d).digsTo s.n
  { s with client := who, tok := s.toks who, err := 0, p := upd s.p r ((s.p r).join d), x := upd s.x r ((s.x r).next d), K := upd s.K r ((s.K r).up r), evs := s.evs ++ [⟨r, s.K r r + 1, kd, c, it, evVal kd v, s.K r⟩], toks := upd s.toks who t, owns := upd s.owns r t }
/-- A Read, done. -/
def CS.read (s : CS) (r who : Nat) (c : Int) : CS :=
  { s with client := who, tok := s.toks who, err := 0, said := (s.p r).sumsTo c 4, toks := upd s.toks who ((s.p r).digsTo s.n), owns := upd s.owns r ((s.p r).digsTo s.n) }
def CS.call (s : CS) (r who : Nat) (kd c it v : Int) : CS :=
  if kd = 7 then (if tokErr s.n (s.p r) (s.token r who) = 0 then s.read r who c else s.refused who (tokErr s.n (s.p r) (s.token r who)))
  else (if evErr r s.n (s.p r) (s.token r who) = 0 then s.event r who kd c it v else s.refused who (evErr r s.n (s.p r) (s.token r who)))

def CS.compact (s : CS) (r : Nat) : CS := { s with x := upd s.x r ((s.x r).compact (s.p r)) }

def CS.ship (s : CS) (r dst : Nat) : CS :=
  if dst = r then { s with err := 1 }
  else if (s.x r).had = (s.x r).ack dst then { s with err := 0 }
  else { s with said := shipL r (s.p r) (s.x r) dst ((s.x r).ack dst), err := 0, wire := s.wire ++ [⟨shipL r (s.p r) (s.x r) dst ((s.x r).ack dst), r, dst, s.K r⟩] }

/-- The answer dst a message. -/
def ansL (r : Nat) (t : Bs) : Bs := [65, dig r, t.getD 1 0, t.getD 3 0, t.getD 4 0]
/-- The piece of a message. -/
def msgP (t : Bs) : Pc := readP (t.drop 5)
def CS.take (s : CS) (r : Nat) (m : Mail) : CS :=
  if m.dst = r then
    (if (s.p r).dots < ((s.p r).join (msgP m.text)).dots then
      { s with said := ansL r m.text, err := 0, p := upd s.p r ((s.p r).join (msgP m.text)), x := upd s.x r ((s.x r).next (msgP m.text)), K := upd s.K r (Vec.sup (s.K r) m.knows), acks := s.acks ++ [⟨ansL r m.text, r, m.frm, Vec.zero⟩] }
     else { s with said := ansL r m.text, err := 0, K := upd s.K r (Vec.sup (s.K r) m.knows), acks := s.acks ++ [⟨ansL r m.text, r, m.frm, Vec.zero⟩] })
  else { s with err := 6 }

/-- The number of an answer. -/
def ansN (t : Bs) : Nat := ((t.getD 3 0).toNat - 48) * 10 + ((t.getD 4 0).toNat - 48)
def CS.acked (s : CS) (r : Nat) (m : Mail) : CS :=
  if m.dst = r then
    (if (s.x r).ack m.frm < ansN m.text then { s with err := 0, x := upd s.x r ((s.x r).setAck m.frm (ansN m.text)) } else { s with err := 0 })
  else { s with err := 6 }

/-- How much is cut of a log. -/
def CS.cut (s : CS) (r : Nat) (k : Int) : Nat :=
  if s.last = r ∧ (s.x r).log ≠ s.lg then
    (if ((s.x r).log.take s.lg.length == s.lg) = true then (pickN k (((s.x r).log.length - s.lg.length : Nat) + 1 : Int)).toNat else (pickN k 2).toNat)
  else 0
/-- What Open makes of a log. -/
def opened (n : Nat) (log : Bs) : LR := logRun n log (log.length + 1) 0 Pc.empty Ext.zero
/-- The log that is read again. -/
def CS.left (s : CS) (r : Nat) (k : Int) : Bs :=
  if s.cut r k = 0 then (s.x r).log else if ((s.x r).log.take s.lg.length == s.lg) = true then (s.x r).log.take ((s.x r).log.length - s.cut r k) else s.lg
/-- What was done is undone. -/
def CS.undo (s : CS) (r : Nat) : CS := { s with K := upd s.K r s.old, evs := s.evs.take s.nevs, wire := s.wire.take s.nwire, acks := s.acks.take s.nacks, toks := if 0 ≤ s.client then upd s.toks s.client.toNat s.tok else s.toks }
/-- Begun anew, out of a log. -/
def CS.again (s : CS) (r : Nat) (log : Bs) : CS := { s with last := -1, client := -1, p := upd s.p r (opened s.n log).h, x := upd s.x r (opened s.n log).x, owns := upd s.owns r ((opened s.n log).h.digsTo s.n) }
def CS.crash (s : CS) (r : Nat) (k : Int) : CS := if s.cut r k = 0 then s.again r (s.left r k) else (s.undo r).again r (s.left r k)

/-- The letter that a raw number speaks of. -/
def nthAt (len : Nat) (k : Int) : Nat := if k < 0 then len - 1 - (pickN k len).toNat else (pickN k len).toNat
def nthM (l : List Mail) (k : Int) : Mail := l.getD (nthAt l.length k) ⟨[], 0, 0, Vec.zero⟩

/-- One step. -/
def CS.step (s : CS) (o : OpR) : CS :=
  let r := (pickN o.r s.n).toNat
  if o.kind = 10 then s.crash r o.b
  else if 3 ≤ o.kind ∧ o.kind ≤ 7 then (s.ahead r).call r (pickN o.t 3).toNat o.kind (pickN o.a 3) (pickN o.b 4) (pickN o.c 199 - 99)
  else if o.kind = 9 then (s.ahead r).compact r
  else if o.kind = 12 then (s.ahead r).ship r (pickN o.a s.n).toNat
  else if o.kind = 11 then
    (if s.wire = [] then s.ahead r else
      let m := nthM s.wire o.a
      let dst := if o.r < 0 then m.dst else r
      ((s.ahead r).ahead dst).take dst m)
  else if o.kind = 13 then
    (if s.acks = [] then s.ahead r else
      let m := nthM s.acks o.a
      let dst := if o.r < 0 then m.dst else r
      ((s.ahead r).ahead dst).acked dst m)
  else s.ahead r

end Go.Proofs.YtalaldfgjgpacabGreatDoor

namespace Go.Proofs.YtalaldfgjgpacabGreatDoor
set_option linter.unusedVariables false
set_option linter.unusedSimpArgs false

theorem upd_upd {α : Type} (f : Nat → α) (r : Nat) (a b : α) : upd (upd f r a) r b = upd f r b := by
  funext q; unfold upd; split <;> rfl

/-- What a crash may undo. -/
def Undo (s : CS) (r : Nat) : Prop :=
  ∃ (p0 : Pc) (x0 : Ext) (E0 : Hist) (V0 : Nat → Nat → Vec), Core s.n (upd s.p r p0) (upd s.x r x0) (upd s.K r s.old) (s.evs.take s.nevs) (s.wire.take s.nwire) (s.acks.take s.nacks) E0 V0 ∧ s.lg = x0.log ∧ s.st = stL p0 s.n ∧
    ((∃ b : Bs, b.length < 1000 ∧ (s.x r).log = s.lg ++ frameL b) ∨ ((s.x r).log.take s.lg.length == s.lg) = false)

/-- What holds of a cluster at all times. -/
structure Inv (s : CS) : Prop where
  core : ∃ E V, Core s.n s.p s.x s.K s.evs s.wire s.acks E V
  toks : ∀ i, i < 3 → isTok s.n (s.toks i) = true
  owns : ∀ r, r < s.n → isTok s.n (s.owns r) = true ∧ ∀ i, i < s.n → ((s.owns r).getD i 0).toNat - 48 ≤ s.K r i
  tok : 0 ≤ s.client → s.client < 3 ∧ isTok s.n s.tok = true
  snap : s.last = -1 ∨ ∃ r : Nat, r < s.n ∧ s.last = r ∧ s.nevs ≤ s.evs.length ∧ s.nwire ≤ s.wire.length ∧ s.nacks ≤ s.acks.length ∧ ((s.x r).log = s.lg ∨ Undo s r)

theorem Inv.ahead {s : CS} (h : Inv s) {r : Nat} (hr : r < s.n) : Inv (s.ahead r) :=
  ⟨h.core, h.toks, h.owns, (fun hc => absurd hc (by show ¬ (0 : Int) ≤ -1; omega)), .inr ⟨r, hr, rfl, Nat.le_refl _, Nat.le_refl _, Nat.le_refl _, .inl rfl⟩⟩
theorem ahead_ahead (s : CS) (r q : Nat) : (s.ahead r).ahead q = s.ahead q := rfl

theorem digsTo_get (p : Pc) : ∀ (k i : Nat), i < k → (p.digsTo k).getD i 0 = dig (p.count (i : Int)) := by
  intro k
  induction k with
  | zero => intro i hi; omega
  | succ k ih =>
    intro i hi
    have hl := digsTo_len p k
    rw [Pc.digsTo]
    by_cases c : i < k
    · rw [← ih i c, List.getD_eq_getElem?_getD, List.getElem?_append_left (by omega), ← List.getD_eq_getElem?_getD]
    · have : i = k := by omega
      subst this
      rw [List.getD_eq_getElem?_getD, List.getElem?_append_right (by omega), hl, Nat.sub_self]
      rfl
theorem dig_sub {d : Nat} (h : d ≤ 9) : (dig d).toNat - 48 = d := by rw [dig_toNat d (by omega)]; omega
theorem isDig_dig {d : Nat} (h : d ≤ 9) : isDigB (dig d) = true := by
  rw [isDigB_iff, dig_toNat d (by omega)]; omega
theorem digs_tok (p : Pc) (n : Nat) : isTok n (p.digsTo n) = true := by
  unfold isTok
  rw [digsTo_len]
  simp only [BEq.rfl, Bool.true_and]
  have : ∀ k, (p.digsTo k).all isDigB = true := by
    intro k
    induction k with
    | zero => rfl
    | succ k ih =>
      rw [Pc.digsTo, List.all_append, ih]
      simp [isDig_dig (Pc.count_le p (k : Int))]
  exact this n
theorem digs_le {E : Hist} {K : Vec} {n : Nat} (hb : Bnd n K) (hn : n ≤ 3) : ∀ i, i < n → (((held E K).digsTo n).getD i 0).toNat - 48 ≤ K i := by
  intro i hi
  rw [digsTo_get _ _ _ hi, dig_sub (Pc.count_le _ _), held_count E (by omega) (hb.nine i)]
  exact Nat.le_refl _

/-- An event's delta is the delta that is asked. -/
theorem ask_ev {E : Hist} {K : Vec} {r n : Nat} (hn : n ≤ 3) (hr : r < n) (hb : Bnd n K) (hg : GoodE E K) (h9 : K r < 9) (kd c it v : Int) (hk : 3 ≤ kd ∧ kd ≤ 6) :
    askDelta r (held E K) kd c it v = evD (held E K) r (K r) kd c it (evVal kd v) := by
  have hc : (held E K).count (r : Int) = K r := held_count E (by omega) (hb.nine r)
  have hz : held E K r (K r) = Sl.zero := heldSl_zero (Nat.lt_irrefl _)
  have hinb : (held E K).inb := by
    intro w i hwi
    refine heldSl_zero ?_
    intro hlt
    have := hb.nine w
    by_cases c : w < n
    · exact hwi ⟨by omega, by omega⟩
    · rw [hb.out w (by omega)] at hlt; omega
  unfold askDelta evD evVal
  rw [hc]
  have hkk : kd = 3 ∨ kd = 4 ∨ kd = 5 ∨ kd = 6 := by omega
  funext w i
  rcases hkk with rfl | rfl | rfl | rfl
  · rw [if_pos rfl]
    show (if w = r ∧ i = K r then _ else _) = _
    by_cases e : w = r ∧ i = K r
    · rw [if_pos e, if_pos e, if_pos (.inl rfl), if_neg (by decide)]
    · rw [if_neg e, if_neg e]
      have : takeB 3 c it (held E K w i) = false := by simp [takeB]
      rw [this]; rfl
  · rw [if_neg (by decide), if_pos rfl]
    show (if w = r ∧ i = K r then _ else _) = _
    by_cases e : w = r ∧ i = K r
    · rw [if_pos e, if_pos e, if_pos (.inr rfl), if_pos rfl]
    · rw [if_neg e, if_neg e]
      have : takeB 4 c it (held E K w i) = (held E K w i).isOf c it := by simp [takeB, Sl.isOf]
      rw [this]; rfl
  · rw [if_neg (by decide), if_neg (by decide), if_pos rfl]
    show (if w = r ∧ i = K r then _ else _) = _
    by_cases e : w = r ∧ i = K r
    · rw [if_pos e, if_pos e, if_neg (by decide)]
      refine known_of ?_
      unfold Pc.dotsOf
      split
      · exact .inl rfl
      · exact .inr rfl
    · rw [if_neg e, if_neg e]
      have : takeB 5 c it (held E K w i) = (held E K w i).isOf c it := by simp [takeB, Sl.isOf]
      rw [this]; rfl
  · rw [if_neg (by decide), if_neg (by decide), if_neg (by decide)]
    have hct : ∀ w i, (held E K).cartTo c 4 w i = if (held E K w i).inCart c then Sl.dot else Sl.zero := by
      intro w i
      by_cases hb' : w < 3 ∧ i < 9
      · exact cart4_at _ (held_fine hg).ok c w i hb'.1 hb'.2
      · rw [inb_cartTo hinb c 4 w i hb', hinb w i hb']; rfl
    show (if w = r ∧ i = K r then _ else _) = _
    by_cases e : w = r ∧ i = K r
    · rw [if_pos e, if_pos e, if_neg (by decide)]
      refine known_of ?_
      rw [hct]
      split
      · exact .inl rfl
      · exact .inr rfl
    · rw [if_neg e, if_neg e, hct]
      have : takeB 6 c it (held E K w i) = (held E K w i).inCart c := by simp [takeB, Sl.inCart]
      rw [this]

theorem upd_isTok {s : CS} (h : ∀ i, i < 3 → isTok s.n (s.toks i) = true) {who : Nat} {t : Bs} (ht : isTok s.n t = true) : ∀ i, i < 3 → isTok s.n (upd s.toks who t i) = true := by
  intro i hi
  unfold upd
  split
  · exact ht
  · exact h i hi

theorem Inv.refused {s : CS} (h : Inv s) {who : Nat} (hw : who < 3) (er : Int) : Inv (s.refused who er) :=
  ⟨h.core, h.toks, h.owns, fun _ => ⟨by show (who : Int) < 3; omega, h.toks who hw⟩, h.snap⟩

theorem Inv.event {s : CS} (h : Inv s) {r who : Nat} (hr : r < s.n) (hw : who < 3) (kd c it v : Int) (hk : 3 ≤ kd ∧ kd ≤ 6) (h9 : s.K r r < 9) (hc0 : 0 ≤ c) (hc1 : c < 3) (hi0 : 0 ≤ it) (hi1 : it < 4) (hv0 : -99 ≤ v) (hv1 : v ≤ 99) : Inv ((s.ahead r).event r who kd c it v) := by
  obtain ⟨E, V, hC⟩ := h.core
  have hi := hC.rep r hr
  have hD : askDelta r (s.p r) kd c it v = evD (s.p r) r (s.K r r) kd c it (evVal kd v) := by
    rw [hi.is]; exact ask_ev hC.n3 hr hi.bnd hi.good h9 kd c it v hk
  have hv : -99 ≤ evVal kd v ∧ evVal kd v ≤ 99 := by unfold evVal; split <;> omega
  have hC' := hC.event hr h9 ⟨r, s.K r r + 1, kd, c, it, evVal kd v, s.K r⟩ rfl rfl rfl ⟨hc0, hc1, hi0, hi1, hv.1, hv.2⟩
  have hC'' : Core s.n (upd s.p r ((s.p r).join (askDelta r (s.p r) kd c it v))) (upd s.x r ((s.x r).next (askDelta r (s.p r) kd c it v))) (upd s.K r ((s.K r).up r)) (s.evs ++ [⟨r, s.K r r + 1, kd, c, it, evVal kd v, s.K r⟩]) s.wire s.acks (E.add r (s.K r r) ⟨r, s.K r r + 1, kd, c, it, evVal kd v, s.K r⟩) (upd V r (upd (V r) ((s.x r).had + 1) ((s.K r).up r))) := by rw [hD]; exact hC'
  have hri := hC''.rep r hr
  rw [upd_at, upd_at, upd_at, upd_at] at hri
  have htk : isTok s.n (((s.p r).join (askDelta r (s.p r) kd c it v)).digsTo s.n) = true := digs_tok _ _
  refine ⟨⟨_, _, hC''⟩, upd_isTok h.toks htk, ?_, fun _ => ⟨by show (who : Int) < 3; omega, h.toks who hw⟩, .inr ⟨r, hr, rfl, ?_, Nat.le_refl _, Nat.le_refl _, .inr ?_⟩⟩
  · intro q hq
    show isTok s.n (upd s.owns r _ q) = true ∧ ∀ i, i < s.n → ((upd s.owns r _ q).getD i 0).toNat - 48 ≤ upd s.K r ((s.K r).up r) q i
    by_cases e : q = r
    · subst e
      rw [upd_at, upd_at]
      refine ⟨htk, ?_⟩
      show ∀ i, i < s.n → ((((s.p q).join (askDelta q (s.p q) kd c it v)).digsTo s.n).getD i 0).toNat - 48 ≤ (s.K q).up q i
      rw [hri.is]; exact digs_le hri.bnd hC.n3
    · rw [upd_ne _ _ e, upd_ne _ _ e]
      exact h.owns q hq
  · show s.evs.length ≤ (s.evs ++ [_]).length
    simp
  · refine ⟨s.p r, s.x r, E, V, ?_, rfl, rfl, .inl ⟨[68] ++ (askDelta r (s.p r) kd c it v).text, ?_, ?_⟩⟩
    · show Core s.n (upd (upd s.p r _) r (s.p r)) (upd (upd s.x r _) r (s.x r)) (upd (upd s.K r _) r (s.K r)) ((s.evs ++ [_]).take s.evs.length) (s.wire.take s.wire.length) (s.acks.take s.acks.length) E V
      rw [upd_upd, upd_upd, upd_upd, upd_self, upd_self, upd_self, List.take_left, List.take_length, List.take_length]
      exact hC
    · have hf : (askDelta r (s.p r) kd c it v).ok := by
        have hgd := hri.late 0 (by show 0 < ((askDelta r (s.p r) kd c it v) :: (s.x r).late).length; simp)
        have hvl : Vec.le (upd (V r) ((s.x r).had + 1) ((s.K r).up r) (((s.x r).next (askDelta r (s.p r) kd c it v)).had - 0)) ((s.K r).up r) := hri.vle (Nat.sub_le _ _)
        exact (hgd.fine (hri.good.le hvl)).ok
      have := text_len' _ hf
      simp; omega
    · show (upd s.x r ((s.x r).next (askDelta r (s.p r) kd c it v)) r).log = _
      rw [upd_at]; rfl

theorem Inv.read {s : CS} (h : Inv s) {r who : Nat} (hr : r < s.n) (hw : who < 3) (c : Int) : Inv ((s.ahead r).read r who c) := by
  obtain ⟨E, V, hC⟩ := h.core
  have hi := hC.rep r hr
  have htk : isTok s.n ((s.p r).digsTo s.n) = true := digs_tok _ _
  refine ⟨⟨E, V, hC⟩, upd_isTok h.toks htk, ?_, fun _ => ⟨by show (who : Int) < 3; omega, h.toks who hw⟩, .inr ⟨r, hr, rfl, Nat.le_refl _, Nat.le_refl _, Nat.le_refl _, .inl rfl⟩⟩
  intro q hq
  show isTok s.n (upd s.owns r ((s.p r).digsTo s.n) q) = true ∧ ∀ i, i < s.n → ((upd s.owns r ((s.p r).digsTo s.n) q).getD i 0).toNat - 48 ≤ s.K q i
  by_cases e : q = r
  · subst e
    rw [upd_at]
    refine ⟨htk, ?_⟩
    rw [hi.is]; exact digs_le hi.bnd hC.n3
  · rw [upd_ne _ _ e]; exact h.owns q hq

/-- A client's call. -/
theorem Inv.call {s : CS} (h : Inv s) {r who : Nat} (hr : r < s.n) (hw : who < 3) (kd c it v : Int) (hk : 3 ≤ kd ∧ kd ≤ 7) (hc0 : 0 ≤ c) (hc1 : c < 3) (hi0 : 0 ≤ it) (hi1 : it < 4) (hv0 : -99 ≤ v) (hv1 : v ≤ 99) : Inv ((s.ahead r).call r who kd c it v) := by
  obtain ⟨E, V, hC⟩ := h.core
  have hi := hC.rep r hr
  unfold CS.call
  split
  · split
    · exact h.read hr hw c
    · exact (h.ahead hr).refused hw _
  · split
    · rename_i h7 he
      refine h.event hr hw kd c it v (by omega) ?_ hc0 hc1 hi0 hi1 hv0 hv1
      have := evErr_lt he
      have e : ((s.ahead r).p r).count (r : Int) = s.K r r := by
        show (s.p r).count (r : Int) = _
        rw [hi.is]; exact held_count E (by have := hC.n3; omega) (hi.bnd.nine r)
      rw [e] at this; exact this
    · exact (h.ahead hr).refused hw _

theorem logSt_first {n : Nat} {log : Bs} {a : Nat} {h : Pc} {x : Ext} (r : Rch n log a h x) : a = 0 ∨ 3 + frLen log 0 ≤ log.length := by
  refine r (fun a _ _ => a = 0 ∨ 3 + frLen log 0 ≤ log.length) (.inl rfl) ?_
  · intro a h x ih hs
    right
    rcases ih with rfl | ih
    · have := (logSt_two (by rw [hs]; decide) (by rw [hs]; decide)).1
      omega
    · exact ih
/-- A log that was made short begins with the log that it was only where that was empty or the same. -/
theorem compact_begins {n : Nat} {p : Pc} {x : Ext} (h : RepOk n p x) (hb : ((x.compact p).log.take x.log.length == x.log) = true) : x.log = [] ∨ (x.compact p).log = x.log := by
  rcases logSt_first h.log with e | e
  · exact .inl (List.eq_nil_of_length_eq_zero e)
  · right
    have e1 : (x.compact p).log.take x.log.length = x.log := by simpa using hb
    have hbl : ([83] ++ lastD x.had 2 ++ p.text).length < 1000 := by
      have := text_len' p h.fine.ok
      simp [lastD_len]; omega
    have e2 : (x.compact p).log = frameL ([83] ++ lastD x.had 2 ++ p.text) := rfl
    have e3 : frLen x.log 0 = ([83] ++ lastD x.had 2 ++ p.text).length := by
      have h3 : 3 ≤ x.log.length := by omega
      have e4 : (x.log.drop 0).take 3 = ((x.compact p).log.drop 0).take 3 := by
        conv => lhs; rw [← e1]
        simp only [List.drop_zero]
        rw [List.take_take, Nat.min_eq_left h3]
      unfold frLen
      rw [e4, e2]
      have := fr_at [] ([83] ++ lastD x.had 2 ++ p.text) [] hbl
      have h5 := this.2.1
      unfold frLen at h5
      simpa using h5
    have e4 : (x.compact p).log.length ≤ x.log.length := by
      rw [e2, frameL_len]; omega
    rw [← e1, List.take_of_length_le e4]

theorem Inv.compact {s : CS} (h : Inv s) {r : Nat} (hr : r < s.n) : Inv ((s.ahead r).compact r) := by
  obtain ⟨E, V, hC⟩ := h.core
  have hi := hC.rep r hr
  refine ⟨⟨E, V, hC.compact hr⟩, h.toks, h.owns, (fun hc => absurd hc (by show ¬ (0 : Int) ≤ -1; omega)), .inr ⟨r, hr, rfl, Nat.le_refl _, Nat.le_refl _, Nat.le_refl _, ?_⟩⟩
  show (upd s.x r ((s.x r).compact (s.p r)) r).log = (s.x r).log ∨ _
  by_cases e : ((s.x r).compact (s.p r)).log = (s.x r).log
  · left; rw [upd_at]; exact e
  · right
    refine ⟨s.p r, s.x r, E, V, ?_, rfl, rfl, ?_⟩
    · show Core s.n (upd s.p r (s.p r)) (upd (upd s.x r _) r (s.x r)) (upd s.K r (s.K r)) (s.evs.take s.evs.length) (s.wire.take s.wire.length) (s.acks.take s.acks.length) E V
      rw [upd_upd, upd_self, upd_self, upd_self, List.take_length, List.take_length, List.take_length]
      exact hC
    · show (∃ b : Bs, b.length < 1000 ∧ (upd s.x r ((s.x r).compact (s.p r)) r).log = (s.x r).log ++ frameL b) ∨ ((upd s.x r ((s.x r).compact (s.p r)) r).log.take (s.x r).log.length == (s.x r).log) = false
      rw [upd_at]
      cases hb : (((s.x r).compact (s.p r)).log.take (s.x r).log.length == (s.x r).log)
      · exact .inr rfl
      · rcases compact_begins hi.ok hb with e0 | e0
        · refine .inl ⟨[83] ++ lastD (s.x r).had 2 ++ (s.p r).text, ?_, by rw [e0]; rfl⟩
          have := text_len' _ hi.ok.fine.ok
          simp [lastD_len]; omega
        · exact absurd e0 e

theorem Inv.ship {s : CS} (h : Inv s) {r dst : Nat} (hr : r < s.n) (ht : dst < s.n) : Inv ((s.ahead r).ship r dst) := by
  obtain ⟨E, V, hC⟩ := h.core
  have hN : ¬ (0 : Int) ≤ -1 := by omega
  unfold CS.ship
  split
  · exact ⟨⟨E, V, hC⟩, h.toks, h.owns, (fun hc => absurd hc hN), .inr ⟨r, hr, rfl, Nat.le_refl _, Nat.le_refl _, Nat.le_refl _, .inl rfl⟩⟩
  · split
    · exact ⟨⟨E, V, hC⟩, h.toks, h.owns, (fun hc => absurd hc hN), .inr ⟨r, hr, rfl, Nat.le_refl _, Nat.le_refl _, Nat.le_refl _, .inl rfl⟩⟩
    · rename_i h1 h2
      refine ⟨⟨E, V, hC.push_wire (hC.shipped hr ht (fun e => h1 e.symm) h2)⟩, h.toks, h.owns, (fun hc => absurd hc hN), .inr ⟨r, hr, rfl, Nat.le_refl _, ?_, Nat.le_refl _, .inl rfl⟩⟩
      show s.wire.length ≤ (s.wire ++ [_]).length
      simp

theorem headL_get (k : UInt8) (f t c : Nat) (l : Bs) : ((headL k f t c ++ l).getD 0 0 = k ∧ (headL k f t c ++ l).getD 1 0 = dig f ∧ (headL k f t c ++ l).getD 2 0 = dig t ∧ (headL k f t c ++ l).getD 3 0 = dig (c / 10) ∧ (headL k f t c ++ l).getD 4 0 = dig (c % 10)) ∧ (headL k f t c ++ l).drop 5 = l :=
  ⟨⟨rfl, rfl, rfl, rfl, rfl⟩, rfl⟩
theorem ansL_head (r k : Nat) (kd : UInt8) (f t c : Nat) (l : Bs) : ansL r (headL kd f t c ++ l) = headL 65 r f c := rfl
theorem ansN_head (kd : UInt8) (f t c : Nat) (l : Bs) (hc : c < 100) : ansN (headL kd f t c ++ l) = c := by
  unfold ansN
  obtain ⟨⟨_, _, _, e3, e4⟩, _⟩ := headL_get kd f t c l
  rw [e3, e4, dig_sub (by omega), dig_sub (by omega)]; omega

/-- What a message that was sent says. -/
theorem WireOk.msg {s : CS} {E : Hist} {V : Nat → Nat → Vec} (hC : Core s.n s.p s.x s.K s.evs s.wire s.acks E V) {m : Mail} (hm : WireOk s.n s.x s.K E V m) :
    ∃ (kd : UInt8) (cnt : Nat) (D : Pc) (A : Vec), (kd = 73 ∨ kd = 70) ∧ m.text = headL kd m.frm m.dst cnt ++ D.text ∧ cnt < 100 ∧ cnt ≤ (s.x m.frm).had ∧ V m.frm cnt = m.knows ∧ GoodD E A m.knows D ∧ Vec.le A (s.K m.dst) ∧ msgP m.text = D ∧ D.fine ∧ D.inb ∧ readOk D.text = true := by
  obtain ⟨kd, cnt, D, A, h1, h2, h3, h4, h5, h6⟩ := hm.is
  have hf := hC.rep _ hm.f
  have hk := WireOk.kle hC hm
  have d1 := h5.fine (hf.good.le hk)
  have d2 := h5.inb (hf.bnd.le hk) hC.n3
  obtain ⟨r1, r2⟩ := read_text d1 d2
  have hh := (hf.ok.fits hf.short).2.1
  refine ⟨kd, cnt, D, A, h1, h2, by omega, h3, h4, h5, h6, ?_, d1, d2, r1⟩
  unfold msgP
  rw [h2, (headL_get kd m.frm m.dst cnt D.text).2]; exact r2

theorem Inv.take {s : CS} (h : Inv s) {r : Nat} (hr : r < s.n) {m : Mail} (hm : m ∈ s.wire) : Inv ((s.ahead r).take r m) := by
  obtain ⟨E, V, hC⟩ := h.core
  have hN : ¬ (0 : Int) ≤ -1 := by omega
  unfold CS.take
  by_cases ht : m.dst = r
  · rw [if_pos ht]
    have hw := hC.wire m hm
    obtain ⟨kd, cnt, D, A, h1, h2, hc, h3, h4, h5, h6, hp, d1, d2, _⟩ := WireOk.msg hC hw
    obtain ⟨g1, g2, g3, g4⟩ := hC.taken hw h5 h6
    subst ht
    have hi := hC.rep _ hw.t
    have hnews := g1.news hi.bnd g2 hC.n3
    have hans : ansL m.dst m.text = headL 65 m.dst m.frm cnt := by rw [h2]; exact ansL_head m.dst 0 kd m.frm m.dst cnt D.text
    rw [← hi.is] at hnews
    by_cases hn : (s.p m.dst).dots < ((s.p m.dst).join (msgP m.text)).dots
    · have hne := hnews.1 (by rw [← hp]; exact hn)
      have hT := hC.take hw h5 h6 hne
      have hA : AckOk s.n (upd s.x m.dst ((s.x m.dst).next D)) (upd s.K m.dst (Vec.sup (s.K m.dst) m.knows)) (upd V m.dst (upd (V m.dst) ((s.x m.dst).had + 1) (Vec.sup (s.K m.dst) m.knows))) ⟨ansL m.dst m.text, m.dst, m.frm, Vec.zero⟩ := by
        refine ⟨hw.t, hw.f, Ne.symm hw.ne, cnt, hans, ?_, ?_⟩
        · show cnt ≤ (upd s.x m.dst _ m.frm).had
          rw [upd_ne _ _ hw.ne]; exact h3
        · show Vec.le (upd V m.dst _ m.frm cnt) (upd s.K m.dst _ m.dst)
          rw [upd_ne _ _ hw.ne, upd_at, h4]; exact Vec.le_sup_r _ _
      have hC2 := hT.push_ack hA
      rw [if_pos (show ((s.ahead m.dst).p m.dst).dots < (((s.ahead m.dst).p m.dst).join (msgP m.text)).dots from hn)]
      rw [← hp] at hC2
      refine ⟨⟨_, _, hC2⟩, h.toks, ?_, (fun hc => absurd hc hN), .inr ⟨m.dst, hr, rfl, Nat.le_refl _, Nat.le_refl _, ?_, .inr ?_⟩⟩
      · intro q hq
        refine ⟨(h.owns q hq).1, fun i hi' => Nat.le_trans ((h.owns q hq).2 i hi') ?_⟩
        show s.K q i ≤ upd s.K m.dst (Vec.sup (s.K m.dst) m.knows) q i
        by_cases e : q = m.dst
        · subst e; rw [upd_at]; exact Vec.le_sup_l _ _ i
        · rw [upd_ne _ _ e]; exact Nat.le_refl _
      · show s.acks.length ≤ (s.acks ++ [_]).length
        simp
      · refine ⟨s.p m.dst, s.x m.dst, E, V, ?_, rfl, rfl, .inl ⟨[68] ++ D.text, ?_, ?_⟩⟩
        · show Core s.n (upd (upd s.p m.dst _) m.dst (s.p m.dst)) (upd (upd s.x m.dst _) m.dst (s.x m.dst)) (upd (upd s.K m.dst _) m.dst (s.K m.dst)) (s.evs.take s.evs.length) (s.wire.take s.wire.length) ((s.acks ++ [_]).take s.acks.length) E V
          rw [upd_upd, upd_upd, upd_upd, upd_self, upd_self, upd_self, List.take_left, List.take_length, List.take_length]
          exact hC
        · have := text_len' D d1.ok
          simp; omega
        · show (upd s.x m.dst ((s.x m.dst).next (msgP m.text)) m.dst).log = _
          rw [upd_at, hp]; rfl
    · have heq : Vec.sup (s.K m.dst) m.knows = s.K m.dst := by
        apply Classical.byContradiction
        intro hne
        exact hn (by rw [hp]; exact hnews.2 (fun e => hne e.symm))
      rw [if_neg (show ¬ ((s.ahead m.dst).p m.dst).dots < (((s.ahead m.dst).p m.dst).join (msgP m.text)).dots from hn)]
      have eK : upd s.K m.dst (Vec.sup (s.K m.dst) m.knows) = s.K := by rw [heq, upd_self]
      have hA : AckOk s.n s.x s.K V ⟨ansL m.dst m.text, m.dst, m.frm, Vec.zero⟩ := by
        refine ⟨hw.t, hw.f, Ne.symm hw.ne, cnt, hans, h3, ?_⟩
        show Vec.le (V m.frm cnt) (s.K m.dst)
        rw [h4, ← heq]; exact Vec.le_sup_r _ _
      refine ⟨⟨E, V, ?_⟩, h.toks, ?_, (fun hc => absurd hc hN), .inr ⟨m.dst, hr, rfl, Nat.le_refl _, Nat.le_refl _, ?_, .inl rfl⟩⟩
      · show Core s.n s.p s.x (upd s.K m.dst (Vec.sup (s.K m.dst) m.knows)) s.evs s.wire (s.acks ++ [_]) E V
        rw [eK]; exact hC.push_ack hA
      · show ∀ q, q < s.n → isTok s.n (s.owns q) = true ∧ ∀ i, i < s.n → ((s.owns q).getD i 0).toNat - 48 ≤ upd s.K m.dst (Vec.sup (s.K m.dst) m.knows) q i
        rw [eK]; exact h.owns
      · show s.acks.length ≤ (s.acks ++ [_]).length
        simp
  · rw [if_neg ht]
    exact ⟨⟨E, V, hC⟩, h.toks, h.owns, (fun hc => absurd hc hN), .inr ⟨r, hr, rfl, Nat.le_refl _, Nat.le_refl _, Nat.le_refl _, .inl rfl⟩⟩

theorem Inv.acked {s : CS} (h : Inv s) {r : Nat} (hr : r < s.n) {m : Mail} (hm : m ∈ s.acks) : Inv ((s.ahead r).acked r m) := by
  obtain ⟨E, V, hC⟩ := h.core
  have hN : ¬ (0 : Int) ≤ -1 := by omega
  unfold CS.acked
  by_cases ht : m.dst = r
  · rw [if_pos ht]
    subst ht
    obtain ⟨f, t, ne, cnt, h2, h3, h4⟩ := hC.acks m hm
    have hi := hC.rep _ t
    have hh := (hi.ok.fits hi.short).2.1
    have hcn : ansN m.text = cnt := by
      rw [h2]
      have := ansN_head 65 m.frm m.dst cnt [] (by omega)
      simpa using this
    split
    · refine ⟨⟨E, V, ?_⟩, h.toks, h.owns, (fun hc => absurd hc hN), .inr ⟨m.dst, hr, rfl, Nat.le_refl _, Nat.le_refl _, Nat.le_refl _, .inl ?_⟩⟩
      · show Core s.n s.p (upd s.x m.dst ((s.x m.dst).setAck m.frm (ansN m.text))) s.K s.evs s.wire s.acks E V
        rw [hcn]
        exact hC.setAck t f h3 h4
      · show (upd s.x m.dst ((s.x m.dst).setAck m.frm (ansN m.text)) m.dst).log = (s.x m.dst).log
        rw [upd_at]; rfl
    · exact ⟨⟨E, V, hC⟩, h.toks, h.owns, (fun hc => absurd hc hN), .inr ⟨m.dst, hr, rfl, Nat.le_refl _, Nat.le_refl _, Nat.le_refl _, .inl rfl⟩⟩
  · rw [if_neg ht]
    exact ⟨⟨E, V, hC⟩, h.toks, h.owns, (fun hc => absurd hc hN), .inr ⟨r, hr, rfl, Nat.le_refl _, Nat.le_refl _, Nat.le_refl _, .inl rfl⟩⟩

/-- A crash: what is read again, and what it gives. -/
structure CrashOk (s : CS) (r : Nat) (k : Int) (p0 : Pc) (x0 : Ext) : Prop where
  op : opened s.n (s.left r k) = ⟨true, x0.log.length, p0, x0.bare⟩
  len : (s.left r k).length ≤ 9000
  ok : p0.ok
  inv : Inv (s.crash r k)
  no : s.cut r k = 0 → p0 = s.p r ∧ x0 = s.x r
  yes : s.cut r k ≠ 0 → s.st = stL p0 s.n

theorem Inv.crash {s : CS} (h : Inv s) {r : Nat} (hr : r < s.n) (k : Int) : ∃ p0 x0, CrashOk s r k p0 x0 := by
  obtain ⟨E, V, hC⟩ := h.core
  have hi := hC.rep r hr
  have hfit := hi.ok.fits hi.short
  by_cases hc : s.cut r k = 0
  · refine ⟨s.p r, s.x r, ?_⟩
    have hl : s.left r k = (s.x r).log := by unfold CS.left; rw [if_pos hc]
    have hop : opened s.n (s.left r k) = ⟨true, (s.x r).log.length, s.p r, (s.x r).bare⟩ := by rw [hl]; exact hi.ok.again
    refine ⟨hop, by rw [hl]; exact hfit.1, hi.ok.fine.ok, ?_, fun _ => ⟨rfl, rfl⟩, fun e => absurd hc e⟩
    unfold CS.crash
    rw [if_pos hc]
    refine ⟨⟨E, V, ?_⟩, h.toks, ?_, (fun hc => absurd hc (by show ¬ (0 : Int) ≤ -1; omega)), .inl rfl⟩
    · show Core s.n (upd s.p r (opened s.n (s.left r k)).h) (upd s.x r (opened s.n (s.left r k)).x) s.K s.evs s.wire s.acks E V
      rw [hop]
      show Core s.n (upd s.p r (s.p r)) (upd s.x r (s.x r).bare) s.K s.evs s.wire s.acks E V
      rw [upd_self]; exact hC.bare hr
    · intro q hq
      show isTok s.n (upd s.owns r ((opened s.n (s.left r k)).h.digsTo s.n) q) = true ∧ ∀ i, i < s.n → ((upd s.owns r ((opened s.n (s.left r k)).h.digsTo s.n) q).getD i 0).toNat - 48 ≤ s.K q i
      rw [hop]
      by_cases e : q = r
      · subst e
        rw [upd_at]
        refine ⟨digs_tok _ _, ?_⟩
        show ∀ i, i < s.n → (((s.p q).digsTo s.n).getD i 0).toNat - 48 ≤ s.K q i
        rw [hi.is]; exact digs_le hi.bnd hC.n3
      · rw [upd_ne _ _ e]; exact h.owns q hq
  · have hcc := hc
    unfold CS.cut at hcc
    by_cases hlast : s.last = r ∧ (s.x r).log ≠ s.lg
    · rw [if_pos hlast] at hcc
      rcases h.snap with e | ⟨r', hr', el, b1, b2, b3, hu⟩
      · rw [hlast.1] at e; omega
      · have er : r' = r := by have := hlast.1; omega
        subst er
        rcases hu with e | ⟨p0, x0, E0, V0, hC0, hlg, hst, hlog⟩
        · exact absurd e hlast.2
        · have hi0 := hC0.rep r' hr
          rw [upd_at, upd_at, upd_at] at hi0
          have hfit0 := hi0.ok.fits hi0.short
          have hl : s.left r' k = if ((s.x r').log.take s.lg.length == s.lg) = true then (s.x r').log.take ((s.x r').log.length - s.cut r' k) else s.lg := by unfold CS.left; rw [if_neg hc]
          have hop : opened s.n (s.left r' k) = ⟨true, x0.log.length, p0, x0.bare⟩ ∧ (s.left r' k).length ≤ 9000 := by
            rw [hl]
            by_cases hb : ((s.x r').log.take s.lg.length == s.lg) = true
            · rw [if_pos hb]
              rcases hlog with ⟨b, hb1, hb2⟩ | hb2
              · have hcut : s.cut r' k ≤ (frameL b).length ∧ 0 < s.cut r' k := by
                  refine ⟨?_, by omega⟩
                  unfold CS.cut
                  rw [if_pos hlast, if_pos hb]
                  have hlen : (s.x r').log.length - s.lg.length = (frameL b).length := by rw [hb2, List.length_append]; omega
                  rw [hlen]
                  have := pickN_bd k (((frameL b).length : Int) + 1) (by omega)
                  omega
                have e1 : (s.x r').log.take ((s.x r').log.length - s.cut r' k) = x0.log ++ (frameL b).take ((frameL b).length - s.cut r' k) := by
                  rw [hb2, hlg, List.length_append, List.take_append]
                  rw [List.take_of_length_le (by omega)]
                  congr 2
                  omega
                rw [e1]
                refine ⟨run_cut hi0.ok.log b hb1 _ (by omega), ?_⟩
                have h1 := hfit.1
                rw [hb2, hlg, List.length_append] at h1
                rw [List.length_append, List.length_take]
                omega
              · rw [hb] at hb2; cases hb2
            · rw [if_neg hb, hlg]
              exact ⟨hi0.ok.again, hfit0.1⟩
          refine ⟨p0, x0, hop.1, hop.2, hi0.ok.fine.ok, ?_, fun e => absurd e hc, fun _ => hst⟩
          unfold CS.crash
          rw [if_neg hc]
          have hn : (s.undo r').n = s.n := rfl
          refine ⟨⟨E0, V0, ?_⟩, ?_, ?_, (fun hc => absurd hc (by show ¬ (0 : Int) ≤ -1; omega)), .inl rfl⟩
          · show Core s.n (upd s.p r' (opened s.n (s.left r' k)).h) (upd s.x r' (opened s.n (s.left r' k)).x) (upd s.K r' s.old) (s.evs.take s.nevs) (s.wire.take s.nwire) (s.acks.take s.nacks) E0 V0
            rw [hop.1]
            have := hC0.bare hr
            rw [upd_at, upd_upd] at this
            exact this
          · show ∀ i, i < 3 → isTok s.n ((if 0 ≤ s.client then upd s.toks s.client.toNat s.tok else s.toks) i) = true
            split
            · rename_i hcl
              exact upd_isTok h.toks (h.tok hcl).2
            · exact h.toks
          · intro q hq
            show isTok s.n (upd s.owns r' ((opened s.n (s.left r' k)).h.digsTo s.n) q) = true ∧ ∀ i, i < s.n → ((upd s.owns r' ((opened s.n (s.left r' k)).h.digsTo s.n) q).getD i 0).toNat - 48 ≤ upd s.K r' s.old q i
            rw [hop.1]
            by_cases e : q = r'
            · subst e
              rw [upd_at, upd_at]
              refine ⟨digs_tok _ _, ?_⟩
              show ∀ i, i < s.n → ((p0.digsTo s.n).getD i 0).toNat - 48 ≤ s.old i
              rw [hi0.is]; exact digs_le hi0.bnd hC.n3
            · rw [upd_ne _ _ e, upd_ne _ _ e]; exact h.owns q hq
    · rw [if_neg hlast] at hcc; exact absurd rfl hcc
end Go.Proofs.YtalaldfgjgpacabGreatDoor
