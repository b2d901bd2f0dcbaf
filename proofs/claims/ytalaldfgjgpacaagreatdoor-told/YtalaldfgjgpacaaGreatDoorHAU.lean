import Derived.Test.YtalaldfgjgpacaaGreatDoorHAS
import Derived.Test.YtalaldfgjgpacaaGreatDoorHAT
import Derived.Deep.AppendLies
namespace Go.Proofs.YtalaldfgjgpacaaGreatDoor
set_option linter.unusedVariables false
set_option linter.unusedSimpArgs false
open Go.RowKit

/-- All but some blocks is as it was. -/
structure Kp (F : Nat → Prop) (a w : World) : Prop where
  os : w.os = a.os
  tape : w.tape = a.tape
  output : w.output = a.output
  size : a.heap.size ≤ w.heap.size
  block : ∀ k, k < a.heap.size → ¬ F k → w.heap[k]? = a.heap[k]?

theorem Kp.rfl (F : Nat → Prop) (a : World) : Kp F a a := ⟨_root_.rfl, _root_.rfl, _root_.rfl, Nat.le_refl _, fun _ _ _ => _root_.rfl⟩
theorem Kp.tr {F : Nat → Prop} {u v w : World} (h : Kp F u v) (k : Kp F v w) : Kp F u w :=
  ⟨k.os.trans h.os, k.tape.trans h.tape, k.output.trans h.output, Nat.le_trans h.size k.size, fun i hi hb => (k.block i (Nat.lt_of_lt_of_le hi h.size) hb).trans (h.block i hi hb)⟩
/-- What is changed behind lies among the blocks, or is new. -/
theorem Kp.tr' {F G : Nat → Prop} {u v w : World} (h : Kp F u v) (k : Kp G v w) (hg : ∀ i, G i → F i ∨ u.heap.size ≤ i) : Kp F u w :=
  ⟨k.os.trans h.os, k.tape.trans h.tape, k.output.trans h.output, Nat.le_trans h.size k.size, fun i hi hb => (k.block i (Nat.lt_of_lt_of_le hi h.size) (fun hG => (hg i hG).elim hb (fun hle => by omega))).trans (h.block i hi hb)⟩
theorem Blw.kp {a w : World} (h : Blw a w) (F : Nat → Prop) : Kp F a w := ⟨h.os, h.tape, h.output, h.size, fun k hk _ => h.block k hk⟩
theorem Bx.kp {b : Nat} {a w : World} (h : Bx b a w) {F : Nat → Prop} (hF : F b) : Kp F a w := ⟨h.os, h.tape, h.output, h.size, fun k hk hn => h.block k hk (fun e => hn (by rw [e]; exact hF))⟩
theorem grown_kp {a w : World} {r : Option Nat} (h : a.grownBy w r) {F : Nat → Prop} (hF : ∀ g, r = some g → F g) : Kp F a w := ⟨h.os, h.tape, h.output, h.size, fun k hk hn => h.block k hk (fun e => hn (hF k e.symm))⟩
theorem Kp.keep {F : Nat → Prop} {a w : World} (h : Kp F a w) {k : Nat} {o : Obj} (hk : a.heap[k]? = some o) (hb : ¬ F k) : w.heap[k]? = some o := (h.block k (lt_of_blk hk) hb).trans hk
theorem Kp.blw {F : Nat → Prop} {a0 a w : World} (h : Kp F a w) (h0 : Blw a0 a) (hF : ∀ k, F k → a0.heap.size ≤ k) : Blw a0 w :=
  ⟨h.os.trans h0.os, h.tape.trans h0.tape, h.output.trans h0.output, Nat.le_trans h0.sz h.size, fun k hk => (h.block k (Nat.lt_of_lt_of_le hk h0.sz) (fun e => by have := hF k e; omega)).trans (h0.block k hk)⟩

/-- Numbers as they lie. -/
def vecL (n : Nat) (K : Vec) : List Int := (List.range n).map fun i => (K i : Int)
theorem vecL_len (n : Nat) (K : Vec) : (vecL n K).length = n := by simp [vecL]
theorem vecL_get {n : Nat} (K : Vec) {i : Nat} (h : i < n) : (vecL n K).getD i 0 = (K i : Int) := by
  simp [vecL, List.getD, h]
theorem vecL_at {n : Nat} (K : Vec) {i : Nat} (h : i < n) : (intsV (vecL n K))[i]? = some (.int .i64 (K i)) := by
  rw [intsV_at (by rw [vecL_len]; exact h), vecL_get K h]
theorem vecL_set (n : Nat) (K : Vec) (i k : Nat) (h : i < n) : (intsV (vecL n K)).setIfInBounds i (.int .i64 (k : Int)) = intsV (vecL n (upd K i k)) := by
  refine Array.ext_getElem? fun j => ?_
  rw [Array.getElem?_setIfInBounds]
  have hsz : (intsV (vecL n K)).size = n := by simp [intsV, vecL_len]
  have hsz' : (intsV (vecL n (upd K i k))).size = n := by simp [intsV, vecL_len]
  by_cases e : i = j
  · subst e
    rw [if_pos rfl, if_pos (by omega), vecL_at _ h, upd_at]
  · rw [if_neg e]
    by_cases hj : j < n
    · rw [vecL_at _ hj, vecL_at _ hj, upd_ne _ _ (fun h => e h.symm)]
    · rw [Array.getElem?_eq_none (by omega), Array.getElem?_eq_none (by omega)]

/-- A slice of numbers that nobody turns. -/
def FrzV (own : Nat → Prop) (w : World) (n : Nat) (v : Value) (K : Vec) : Prop :=
  ∃ g, v = .slice (some ⟨g, 0, none⟩) n n ∧ ¬ own g ∧ w.heap[g]? = some (.cells (intsV (vecL n K)) 3)
theorem FrzV.on {own own' : Nat → Prop} {w w' : World} {n : Nat} {v : Value} {K : Vec} (h : FrzV own w n v K) (hk : Kp own w w') (ho : ∀ k, own' k → own k ∨ w.heap.size ≤ k) : FrzV own' w' n v K := by
  obtain ⟨g, h1, h2, h3⟩ := h
  refine ⟨g, h1, ?_, hk.keep h3 h2⟩
  intro hg
  rcases ho g hg with c | c
  · exact h2 c
  · have := lt_of_blk h3; omega

/-- Rows one behind the other. -/
def flatC (f : Nat → List Value) (n : Nat) : List Value := (List.range n).flatMap f
theorem flatC_succ (f : Nat → List Value) (n : Nat) : flatC f (n + 1) = flatC f n ++ f n := by
  unfold flatC; rw [List.range_succ, List.flatMap_append]; simp
theorem flatC_congr {f g : Nat → List Value} {n : Nat} (h : ∀ i, i < n → f i = g i) : flatC f n = flatC g n := by
  induction n with
  | zero => rfl
  | succ n ih => rw [flatC_succ, flatC_succ, ih (fun i hi => h i (by omega)), h n (by omega)]
theorem flatC_len {f : Nat → List Value} {sz : Nat} (n : Nat) (h : ∀ i, i < n → (f i).length = sz) : (flatC f n).length = n * sz := by
  induction n with
  | zero => simp [flatC]
  | succ n ih => rw [flatC_succ, List.length_append, ih (fun i hi => h i (by omega)), h n (by omega), Nat.succ_mul]
theorem flatC_take {f : Nat → List Value} {sz : Nat} (n k : Nat) (hk : k ≤ n) (h : ∀ i, i < n → (f i).length = sz) : (flatC f n).take (k * sz) = flatC f k := by
  induction n with
  | zero =>
    have : k = 0 := by omega
    subst this; simp [flatC]
  | succ n ih =>
    have hl := flatC_len (sz := sz) n (fun i hi => h i (by omega))
    by_cases e : k = n + 1
    · subst e
      rw [List.take_of_length_le (by rw [flatC_len (n + 1) h]; exact Nat.le_refl _)]
    · rw [flatC_succ, List.take_append_of_le_length (by rw [hl]; exact Nat.mul_le_mul_right _ (by omega)), ih (by omega) (fun i hi => h i (by omega))]
theorem flatC_get {f : Nat → List Value} {sz : Nat} (n i j : Nat) (hi : i < n) (hj : j < sz) (h : ∀ i, i < n → (f i).length = sz) : (flatC f n)[i * sz + j]? = (f i)[j]? := by
  induction n with
  | zero => omega
  | succ n ih =>
    have hl := flatC_len (sz := sz) n (fun i hi => h i (by omega))
    rw [flatC_succ]
    by_cases e : i = n
    · subst e
      rw [List.getElem?_append_right (by rw [hl]; omega), hl]
      congr 1; omega
    · have : i * sz + j < n * sz := by
        have h1 : (i + 1) * sz ≤ n * sz := Nat.mul_le_mul_right _ (by omega)
        rw [Nat.succ_mul] at h1; omega
      rw [List.getElem?_append_left (by rw [hl]; exact this)]
      exact ih (by omega) (fun i hi => h i (by omega))

/-- An event's cells; a letter's. -/
def evC (e : Ev) (v : Value) : List Value := [.int .i64 e.who, .int .i64 e.num, .int .i64 e.kind, .int .i64 e.cart, .int .i64 e.item, .int .i64 e.value, v]
def mailC (m : Mail) (v : Value) : List Value := [.string ⟨m.text.toArray⟩, .int .i64 m.frm, .int .i64 m.dst, v]

/-- Where a cluster lies. -/
structure CM where
  cb : Nat
  xb : Nat
  kb : Nat
  tb : Nat
  ob : Nat
  cx : Nat
  ck : Nat
  ct : Nat
  co : Nat
  xa : Array Value
  ka : Array Value
  ta : Array Value
  oa : Array Value
  b : Nat → Nat
  g : Nat → Nat
  ev : Value
  wv : Value
  av : Value
  ef : Nat → List Value
  wf : Nat → List Value
  af : Nat → List Value
  ol : Value
  own : Nat → Prop

def rowA (m : CM) (s : CS) : Array Value := clA s.n s.mode (.slice (some ⟨m.xb, 0, none⟩) s.n m.cx) (.slice (some ⟨m.kb, 0, none⟩) s.n m.ck) m.ev m.wv m.av (.slice (some ⟨m.tb, 0, none⟩) 3 m.ct) (.slice (some ⟨m.ob, 0, none⟩) s.n m.co) s.said s.err s.last s.lg s.st m.ol s.nevs s.nwire s.nacks s.client s.tok

structure XsAt (w : World) (m : CM) (n : Nat) (p : Nat → Pc) (x : Nat → Ext) : Prop where
  xs : w.heap[m.xb]? = some (.cells m.xa 29)
  xr : ∀ r, r < n → m.xa[r]? = some (.pointer (some ⟨m.b r, 0, none⟩))
  rep : ∀ r, r < n → w.heap[m.b r]? = some (.cells (repArr r n (p r) (x r)) 69)
  bne : ∀ r q, r < n → q < n → r ≠ q → m.b r ≠ m.b q
  ox : m.own m.xb
  ob : ∀ r, r < n → m.own (m.b r)
structure KsAt (w : World) (m : CM) (n : Nat) (K : Nat → Vec) : Prop where
  kn : w.heap[m.kb]? = some (.cells m.ka 36)
  kr : ∀ r, r < n → m.ka[r]? = some (.slice (some ⟨m.g r, 0, none⟩) n n)
  kc : ∀ r, r < n → w.heap[m.g r]? = some (.cells (intsV (vecL n (K r))) 3)
  gne : ∀ r q, r < n → q < n → r ≠ q → m.g r ≠ m.g q
  ok : m.own m.kb
  og : ∀ r, r < n → m.own (m.g r)
structure TksAt (w : World) (b n : Nat) (a : Array Value) (toks : Nat → Bs) : Prop where
  tk : w.heap[b]? = some (.cells a 9)
  tr : ∀ i, i < n → a[i]? = some (.string ⟨(toks i).toArray⟩)
structure EvsAt (w : World) (own : Nat → Prop) (n : Nat) (v : Value) (f : Nat → List Value) (evs : List Ev) : Prop where
  o : w.ownsRow 0 149 7 v evs.length (flatC f evs.length)
  i : ∀ i e, evs[i]? = some e → ∃ u, f i = evC e u ∧ FrzV own w n u e.seen
  b : ∀ g, v.ownBlock = some g → own g
structure WirAt (w : World) (own : Nat → Prop) (n : Nat) (v : Value) (f : Nat → List Value) (l : List Mail) : Prop where
  o : w.ownsRow 0 104 4 v l.length (flatC f l.length)
  i : ∀ i e, l[i]? = some e → ∃ u, f i = mailC e u ∧ FrzV own w n u e.knows
  b : ∀ g, v.ownBlock = some g → own g
structure AksAt (w : World) (own : Nat → Prop) (v : Value) (f : Nat → List Value) (l : List Mail) : Prop where
  o : w.ownsRow 0 104 4 v l.length (flatC f l.length)
  i : ∀ i e, l[i]? = some e → f i = mailC e (.slice none 0 0)
  b : ∀ g, v.ownBlock = some g → own g
/-- What there was ahead of a call. -/
def OldAt (w : World) (m : CM) (n : Nat) (old : Vec) : Prop := ∃ h, m.ol = .slice (some ⟨h, 0, none⟩) n n ∧ w.heap[h]? = some (.cells (intsV (vecL n old)) 3) ∧ m.own h ∧ ∀ r, r < n → m.g r ≠ h

/-- A cluster in memory. -/
structure ClAt (w : World) (m : CM) (s : CS) : Prop where
  n1 : 1 ≤ s.n
  n3 : s.n ≤ 3
  row : w.heap[m.cb]? = some (.cells (rowA m s) 38)
  oc : m.own m.cb
  xs : XsAt w m s.n s.p s.x
  ks : KsAt w m s.n s.K
  tk : TksAt w m.tb 3 m.ta s.toks
  ow : TksAt w m.ob s.n m.oa s.owns
  ot : m.own m.tb
  oo : m.own m.ob
  tno : m.tb ≠ m.ob
  ev : EvsAt w m.own s.n m.ev m.ef s.evs
  wi : WirAt w m.own s.n m.wv m.wf s.wire
  ak : AksAt w m.own m.av m.af s.acks
  wa : ∀ g, m.wv.ownBlock = some g → m.av.ownBlock ≠ some g
  old : 0 ≤ s.last → OldAt w m s.n s.old
  tab : Tab Tryz.prog w
  tf : ∀ g, Tryz.prog.globalNamed "internal/strconv.uint64pow10" = some g → ¬ m.own g
  lim : ∀ k, m.own k → k < w.heap.size

theorem ownsRow_on {w w' : World} {base sz : Nat} {t : TypeId} {v : Value} {n : Nat} {xs : List Value} (h : w.ownsRow base t sz v n xs) (hb : ∀ g, v.ownBlock = some g → w'.heap[g]? = w.heap[g]?) : w'.ownsRow base t sz v n xs := by
  refine ⟨h.1, ?_⟩
  rcases h.2 with hn | ⟨g, cap, cur, e, hg, hh, r⟩
  · exact .inl hn
  · refine .inr ⟨g, cap, cur, e, hg, ?_, r⟩
    rw [hb g (by rw [e]; rfl)]; exact hh
/-- The block of a row, and its type. -/
theorem ownsRow_blk {w : World} {base sz : Nat} {t : TypeId} {v : Value} {n : Nat} {xs : List Value} (h : w.ownsRow base t sz v n xs) {g : Nat} (hg : v.ownBlock = some g) : ∃ C, w.heap[g]? = some (.cells C t) := by
  rcases h.2 with ⟨rfl, _⟩ | ⟨g', cap, cur, rfl, _, hh, _⟩
  · cases hg
  · have : g' = g := by simpa [Value.ownBlock] using hg
    subst this; exact ⟨cur, hh⟩
theorem ownsRow_cut {w : World} {base sz : Nat} {t : TypeId} {g n cap k : Nat} {xs : List Value} (h : w.ownsRow base t sz (.slice (some ⟨g, 0, none⟩) n cap) n xs) (hk : k ≤ n) : w.ownsRow base t sz (.slice (some ⟨g, 0, none⟩) k cap) k (xs.take (k * sz)) := by
  have hl : k * sz ≤ n * sz := Nat.mul_le_mul_right _ hk
  refine ⟨by rw [List.length_take, h.1]; omega, ?_⟩
  rcases h.2 with ⟨e, _⟩ | ⟨g', cap', cur, e, h1, h2, h3, h4, h5, h6⟩
  · cases e
  · injection e with e1 e2 e3
    injection e1 with e1
    injection e1 with e1
    subst e1; subst e3
    refine .inr ⟨g, cap, cur, rfl, h1, h2, by omega, h4, h5, ?_⟩
    rw [← h6, List.take_take, Nat.min_eq_left hl]

theorem XsAt.on {w w' : World} {m : CM} {n : Nat} {p : Nat → Pc} {x : Nat → Ext} (h : XsAt w m n p x) (h1 : w'.heap[m.xb]? = w.heap[m.xb]?) (h2 : ∀ r, r < n → w'.heap[m.b r]? = w.heap[m.b r]?) : XsAt w' m n p x :=
  ⟨h1.trans h.xs, h.xr, fun r hr => (h2 r hr).trans (h.rep r hr), h.bne, h.ox, h.ob⟩
theorem KsAt.on {w w' : World} {m : CM} {n : Nat} {K : Nat → Vec} (h : KsAt w m n K) (h1 : w'.heap[m.kb]? = w.heap[m.kb]?) (h2 : ∀ r, r < n → w'.heap[m.g r]? = w.heap[m.g r]?) : KsAt w' m n K :=
  ⟨h1.trans h.kn, h.kr, fun r hr => (h2 r hr).trans (h.kc r hr), h.gne, h.ok, h.og⟩
theorem TksAt.on {w w' : World} {b n : Nat} {a : Array Value} {toks : Nat → Bs} (h : TksAt w b n a toks) (h1 : w'.heap[b]? = w.heap[b]?) : TksAt w' b n a toks := ⟨h1.trans h.tk, h.tr⟩
theorem EvsAt.on {w w' : World} {own : Nat → Prop} {n : Nat} {v : Value} {f : Nat → List Value} {evs : List Ev} (h : EvsAt w own n v f evs) (hk : Kp own w w') (h1 : ∀ g, v.ownBlock = some g → w'.heap[g]? = w.heap[g]?) : EvsAt w' own n v f evs :=
  ⟨ownsRow_on h.o h1, fun i e he => by obtain ⟨u, h2, h3⟩ := h.i i e he; exact ⟨u, h2, h3.on hk (fun k hk => .inl hk)⟩, h.b⟩
theorem WirAt.on {w w' : World} {own : Nat → Prop} {n : Nat} {v : Value} {f : Nat → List Value} {l : List Mail} (h : WirAt w own n v f l) (hk : Kp own w w') (h1 : ∀ g, v.ownBlock = some g → w'.heap[g]? = w.heap[g]?) : WirAt w' own n v f l :=
  ⟨ownsRow_on h.o h1, fun i e he => by obtain ⟨u, h2, h3⟩ := h.i i e he; exact ⟨u, h2, h3.on hk (fun k hk => .inl hk)⟩, h.b⟩
theorem AksAt.on {w w' : World} {own : Nat → Prop} {v : Value} {f : Nat → List Value} {l : List Mail} (h : AksAt w own v f l) (h1 : ∀ g, v.ownBlock = some g → w'.heap[g]? = w.heap[g]?) : AksAt w' own v f l :=
  ⟨ownsRow_on h.o h1, h.i, h.b⟩
theorem Tab.kp {P : Program} {w w' : World} {F : Nat → Prop} (h : Tab P w) (hk : Kp F w w') (hf : ∀ g, P.globalNamed "internal/strconv.uint64pow10" = some g → ¬ F g) : Tab P w' :=
  h.on fun g hg => hk.block g (h.lt g hg) (hf g hg)

/-- Blocks of the cluster that are of different types are different; the rest is said. -/
structure Far (w : World) (m : CM) (s : CS) (k : Nat) : Prop where
  cb : m.cb ≠ k
  xb : m.xb ≠ k
  b : ∀ r, r < s.n → m.b r ≠ k
  kb : m.kb ≠ k
  g : ∀ r, r < s.n → m.g r ≠ k
  tb : m.tb ≠ k
  ob : m.ob ≠ k
  ev : m.ev.ownBlock ≠ some k
  wv : m.wv.ownBlock ≠ some k
  av : m.av.ownBlock ≠ some k
  ol : 0 ≤ s.last → m.ol.ownBlock ≠ some k

/-- Nothing of the cluster is touched. -/
theorem ClAt.far {w w' : World} {m : CM} {s : CS} (h : ClAt w m s) {k : Nat} (hb : Bx k w w') (hf : Far w m s k) (hk : m.own k) : ClAt w' m s := by
  have hkp : Kp m.own w w' := hb.kp hk
  have e : ∀ j, j ≠ k → (∃ o, w.heap[j]? = some o) → w'.heap[j]? = w.heap[j]? := fun j hj ⟨o, ho⟩ => hb.block j (lt_of_blk ho) hj
  have er : ∀ {t : TypeId} {sz : Nat} {v : Value} {n : Nat} {xs : List Value}, w.ownsRow 0 t sz v n xs → v.ownBlock ≠ some k → ∀ g, v.ownBlock = some g → w'.heap[g]? = w.heap[g]? := by
    intro t sz v n xs ho hne g hg
    obtain ⟨C, hC⟩ := ownsRow_blk ho hg
    exact e g (fun c => hne (by rw [← c]; exact hg)) ⟨_, hC⟩
  refine ⟨h.n1, h.n3, (e _ hf.cb ⟨_, h.row⟩).trans h.row, h.oc, h.xs.on (e _ hf.xb ⟨_, h.xs.xs⟩) (fun r hr => e _ (hf.b r hr) ⟨_, h.xs.rep r hr⟩), h.ks.on (e _ hf.kb ⟨_, h.ks.kn⟩) (fun r hr => e _ (hf.g r hr) ⟨_, h.ks.kc r hr⟩),
    h.tk.on (e _ hf.tb ⟨_, h.tk.tk⟩), h.ow.on (e _ hf.ob ⟨_, h.ow.tk⟩), h.ot, h.oo, h.tno, h.ev.on hkp (er h.ev.o hf.ev), h.wi.on hkp (er h.wi.o hf.wv), h.ak.on (er h.ak.o hf.av), h.wa, ?_, h.tab.kp hkp h.tf, h.tf, fun k hk => Nat.lt_of_lt_of_le (h.lim k hk) hkp.size⟩
  intro hl
  obtain ⟨j, h1, h2, h3, h4⟩ := h.old hl
  refine ⟨j, h1, (e j (fun c => hf.ol hl (by rw [h1, c]; rfl)) ⟨_, h2⟩).trans h2, h3, h4⟩

theorem ClAt.blw {w w' : World} {m : CM} {s : CS} (h : ClAt w m s) (hb : Blw w w') : ClAt w' m s := by
  have hkp : Kp m.own w w' := hb.kp _
  have e : ∀ j, (∃ o, w.heap[j]? = some o) → w'.heap[j]? = w.heap[j]? := fun j ⟨o, ho⟩ => hb.bk j (lt_of_blk ho)
  have er : ∀ {t : TypeId} {sz : Nat} {v : Value} {n : Nat} {xs : List Value}, w.ownsRow 0 t sz v n xs → ∀ g, v.ownBlock = some g → w'.heap[g]? = w.heap[g]? := by
    intro t sz v n xs ho g hg
    obtain ⟨C, hC⟩ := ownsRow_blk ho hg
    exact e g ⟨_, hC⟩
  refine ⟨h.n1, h.n3, (e _ ⟨_, h.row⟩).trans h.row, h.oc, h.xs.on (e _ ⟨_, h.xs.xs⟩) (fun r hr => e _ ⟨_, h.xs.rep r hr⟩), h.ks.on (e _ ⟨_, h.ks.kn⟩) (fun r hr => e _ ⟨_, h.ks.kc r hr⟩),
    h.tk.on (e _ ⟨_, h.tk.tk⟩), h.ow.on (e _ ⟨_, h.ow.tk⟩), h.ot, h.oo, h.tno, h.ev.on hkp (er h.ev.o), h.wi.on hkp (er h.wi.o), h.ak.on (er h.ak.o), h.wa, ?_, h.tab.kp hkp h.tf, h.tf, fun k hk => Nat.lt_of_lt_of_le (h.lim k hk) hkp.size⟩
  intro hl
  obtain ⟨j, h1, h2, h3, h4⟩ := h.old hl
  exact ⟨j, h1, (e j ⟨_, h2⟩).trans h2, h3, h4⟩

theorem row_ne {w : World} {base sz : Nat} {t u : TypeId} {v : Value} {n k : Nat} {xs : List Value} {C : Array Value} (h : w.ownsRow base t sz v n xs) (hk : w.heap[k]? = some (.cells C u)) (hne : t ≠ u) : v.ownBlock ≠ some k := by
  intro hg
  obtain ⟨D, hD⟩ := ownsRow_blk h hg
  exact ne_ty hD hk hne rfl
end Go.Proofs.YtalaldfgjgpacaaGreatDoor

namespace Go.Proofs.YtalaldfgjgpacaaGreatDoor
set_option linter.unusedVariables false
set_option linter.unusedSimpArgs false

/-- Numbers that a machine has. -/
def i64ok (z : Int) : Prop := -9223372036854775808 ≤ z ∧ z ≤ 9223372036854775807
structure OpR.ok (o : OpR) : Prop where
  r : i64ok o.r
  t : i64ok o.t
  a : i64ok o.a
  b : i64ok o.b
  c : i64ok o.c

theorem pickN_lt {k : Int} {n : Nat} (hn : 1 ≤ n) : (pickN k n).toNat < n := by
  have := pickN_bd k n (by omega)
  omega
theorem nthAt_lt {len : Nat} (h : 0 < len) (k : Int) : nthAt len k < len := by
  have := pickN_bd k len (by omega)
  unfold nthAt
  split <;> omega
theorem nthM_mem {l : List Mail} (h : l ≠ []) (k : Int) : nthM l k ∈ l := by
  have hl : 0 < l.length := List.length_pos_iff.2 h
  have := nthAt_lt hl k
  unfold nthM
  rw [List.getD_eq_getElem?_getD, List.getElem?_eq_getElem this]
  exact List.getElem_mem this

/-- A cluster that has gone so many steps. -/
structure Ran (s : CS) (k : Nat) : Prop where
  inv : Inv s
  lg : s.lg.length ≤ 9000
  wi : s.wire.length ≤ k
  ak : s.acks.length ≤ k

/-- What a step leaves. -/
structure Kept (s s' : CS) : Prop where
  n : s'.n = s.n
  mode : s'.mode = s.mode
  lg : s'.lg = s.lg
  wi : s'.wire.length ≤ s.wire.length + 1
  ak : s'.acks.length ≤ s.acks.length + 1

theorem kept_call (s : CS) (r who : Nat) (kd c it v : Int) : Kept s (s.call r who kd c it v) := by
  unfold CS.call
  split <;> split
  all_goals exact ⟨rfl, rfl, rfl, Nat.le_succ _, Nat.le_succ _⟩
theorem kept_ship (s : CS) (r q : Nat) : Kept s (s.ship r q) := by
  unfold CS.ship
  split
  · exact ⟨rfl, rfl, rfl, Nat.le_succ _, Nat.le_succ _⟩
  · split
    · exact ⟨rfl, rfl, rfl, Nat.le_succ _, Nat.le_succ _⟩
    · exact ⟨rfl, rfl, rfl, by simp, Nat.le_succ _⟩
theorem kept_take (s : CS) (r : Nat) (m : Mail) : Kept s (s.take r m) := by
  unfold CS.take
  split
  · split
    · exact ⟨rfl, rfl, rfl, Nat.le_succ _, by simp⟩
    · exact ⟨rfl, rfl, rfl, Nat.le_succ _, by simp⟩
  · exact ⟨rfl, rfl, rfl, Nat.le_succ _, Nat.le_succ _⟩
theorem kept_acked (s : CS) (r : Nat) (m : Mail) : Kept s (s.acked r m) := by
  unfold CS.acked
  split
  · split <;> exact ⟨rfl, rfl, rfl, Nat.le_succ _, Nat.le_succ _⟩
  · exact ⟨rfl, rfl, rfl, Nat.le_succ _, Nat.le_succ _⟩
theorem kept_compact (s : CS) (r : Nat) : Kept s (s.compact r) := ⟨rfl, rfl, rfl, Nat.le_succ _, Nat.le_succ _⟩
theorem kept_crash (s : CS) (r : Nat) (k : Int) : Kept s (s.crash r k) := by
  unfold CS.crash
  split
  · exact ⟨rfl, rfl, rfl, Nat.le_succ _, Nat.le_succ _⟩
  · refine ⟨rfl, rfl, rfl, ?_, ?_⟩
    · show (s.wire.take s.nwire).length ≤ _
      rw [List.length_take]; omega
    · show (s.acks.take s.nacks).length ≤ _
      rw [List.length_take]; omega

theorem Inv.n1 {s : CS} (h : Inv s) : 1 ≤ s.n ∧ s.n ≤ 3 := by
  obtain ⟨E, V, hC⟩ := h.core
  exact ⟨hC.n1, hC.n3⟩
theorem Inv.loglen {s : CS} (h : Inv s) {r : Nat} (hr : r < s.n) : (s.x r).log.length ≤ 9000 := by
  obtain ⟨E, V, hC⟩ := h.core
  exact ((hC.rep r hr).ok.fits (hC.rep r hr).short).1

theorem Ran.of {s s' : CS} {k : Nat} (h : Ran s k) {r : Nat} (hr : r < s.n) (hk : Kept (s.ahead r) s') (hi : Inv s') : Ran s' (k + 1) := by
  refine ⟨hi, ?_, Nat.le_trans hk.wi (Nat.succ_le_succ h.wi), Nat.le_trans hk.ak (Nat.succ_le_succ h.ak)⟩
  rw [hk.lg]
  exact h.inv.loglen hr

/-- A step goes from one to the next. -/
theorem Ran.step {s : CS} {k : Nat} (h : Ran s k) (o : OpR) : Ran (s.step o) (k + 1) ∧ (s.step o).n = s.n ∧ (s.step o).mode = s.mode := by
  obtain ⟨h1, h3⟩ := h.inv.n1
  have hr : (pickN o.r s.n).toNat < s.n := pickN_lt h1
  have ho : ∀ q, q < s.n → ∀ s', Kept (s.ahead q) s' → Inv s' → Ran s' (k + 1) ∧ s'.n = s.n ∧ s'.mode = s.mode := fun q hq s' hk hi => ⟨h.of hq hk hi, hk.n, hk.mode⟩
  unfold CS.step
  simp only
  split
  · obtain ⟨p0, x0, hc⟩ := h.inv.crash hr o.b
    have hk := kept_crash s (pickN o.r s.n).toNat o.b
    exact ⟨⟨hc.inv, by rw [hk.lg]; exact h.lg, Nat.le_trans hk.wi (Nat.succ_le_succ h.wi), Nat.le_trans hk.ak (Nat.succ_le_succ h.ak)⟩, hk.n, hk.mode⟩
  split
  · rename_i c
    have b1 := pickN_bd o.a 3 (by omega)
    have b2 := pickN_bd o.b 4 (by omega)
    have b3 := pickN_bd o.c 199 (by omega)
    have b4 := pickN_bd o.t 3 (by omega)
    exact ho _ hr _ (kept_call _ _ _ _ _ _ _) (h.inv.call hr (by omega) _ _ _ _ c (by omega) (by omega) (by omega) (by omega) (by omega) (by omega))
  split
  · exact ho _ hr _ (kept_compact _ _) (h.inv.compact hr)
  split
  · exact ho _ hr _ (kept_ship _ _ _) (h.inv.ship hr (pickN_lt h1))
  split
  · split
    · exact ho _ hr _ ⟨rfl, rfl, rfl, Nat.le_succ _, Nat.le_succ _⟩ (h.inv.ahead hr)
    · rename_i c
      have hm := nthM_mem c o.a
      have hd : (if o.r < 0 then (nthM s.wire o.a).dst else (pickN o.r s.n).toNat) < s.n := by
        split
        · obtain ⟨E, V, hC⟩ := h.inv.core
          exact (hC.wire _ hm).t
        · exact hr
      exact ho _ hd _ (kept_take _ _ _) (h.inv.take hd hm)
  split
  · split
    · exact ho _ hr _ ⟨rfl, rfl, rfl, Nat.le_succ _, Nat.le_succ _⟩ (h.inv.ahead hr)
    · rename_i c
      have hm := nthM_mem c o.a
      have hd : (if o.r < 0 then (nthM s.acks o.a).dst else (pickN o.r s.n).toNat) < s.n := by
        split
        · obtain ⟨E, V, hC⟩ := h.inv.core
          exact (hC.acks _ hm).t
        · exact hr
      exact ho _ hd _ (kept_acked _ _ _) (h.inv.acked hd hm)
  · exact ho _ hr _ ⟨rfl, rfl, rfl, Nat.le_succ _, Nat.le_succ _⟩ (h.inv.ahead hr)

/-- A new cluster. -/
def CS.start (n : Nat) (mode : Int) : CS :=
  { n := n, mode := mode, p := fun _ => Pc.empty, x := fun _ => Ext.zero, K := fun _ => Vec.zero, evs := [], wire := [], acks := [], toks := fun _ => noughtsL n, owns := fun _ => noughtsL n, said := [], err := 0, last := -1, lg := [], st := [], old := Vec.zero, nevs := 0, nwire := 0, nacks := 0, client := -1, tok := [] }
theorem Ran.start {n : Nat} (h1 : 1 ≤ n) (h3 : n ≤ 3) (mode : Int) : Ran (CS.start n mode) 0 := by
  refine ⟨⟨?_, ?_, ?_, ?_, ?_⟩, Nat.zero_le _, Nat.le_refl _, Nat.le_refl _⟩
  · exact ⟨fun r i => ⟨r, i + 1, 0, 0, 0, 0, Vec.zero⟩, _, Core.start n _ (fun _ _ => ⟨rfl, rfl⟩) h1 h3⟩
  · intro i _
    exact (tok_noughts n Pc.empty).1
  · intro r _
    refine ⟨(tok_noughts n Pc.empty).1, fun i hi => ?_⟩
    show ((noughtsL n).getD i 0).toNat - 48 ≤ 0
    have : (noughtsL n).getD i 0 = 48 := by
      rw [List.getD_eq_getElem?_getD]
      unfold noughtsL
      rw [List.getElem?_replicate]
      simp [show i < n from hi]
    rw [this]; decide
  · intro h
    exact absurd h (by show ¬ (0 : Int) ≤ -1; omega)
  · exact .inl rfl
end Go.Proofs.YtalaldfgjgpacaaGreatDoor
