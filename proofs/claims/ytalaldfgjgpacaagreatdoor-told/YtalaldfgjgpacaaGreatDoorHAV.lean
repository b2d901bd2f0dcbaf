import Derived.Test.YtalaldfgjgpacaaGreatDoorHAJ
import Derived.Test.YtalaldfgjgpacaaGreatDoorHAU
import Derived.Test.YtalaldfgjgpacaaGreatDoorCards
import Derived.Test.YtalaldfgjgpacaaGreatDoorTie
import Derived.ProofKit
import Derived.OpenShut
import Derived.Deep.DeepHandedRow
import Derived.Deep.Slices
import Derived.SizedLaws
import Derived.ShutString
import Derived.Below
namespace Go.Proofs.YtalaldfgjgpacaaGreatDoor
set_option linter.unusedVariables false
set_option linter.unusedSimpArgs false
open Go.RowKit

section
variable {w w' : World} {m : CM} {s : CS}

/-- Blocks that are there, other than one. -/
theorem Bx.oth {k : Nat} (hb : Bx k w w') : ∀ j, j ≠ k → (∃ o, w.heap[j]? = some o) → w'.heap[j]? = w.heap[j]? := fun j hj ⟨o, ho⟩ => hb.block j (lt_of_blk ho) hj
theorem Bx.othRow {k : Nat} (hb : Bx k w w') {base sz n : Nat} {t : TypeId} {v : Value} {xs : List Value} (ho : w.ownsRow base t sz v n xs) (hne : v.ownBlock ≠ some k) : ∀ g, v.ownBlock = some g → w'.heap[g]? = w.heap[g]? := by
  intro g hg
  obtain ⟨C, hC⟩ := ownsRow_blk ho hg
  exact hb.oth g (fun c => hne (by rw [← c]; exact hg)) ⟨_, hC⟩

/-- A replica is turned. -/
theorem ClAt.rep_to (h : ClAt w m s) {r : Nat} (hr : r < s.n) {p' : Pc} {x' : Ext} (hb : Bx (m.b r) w w') (hp : w'.heap[m.b r]? = some (.cells (repArr r s.n p' x') 69)) : ClAt w' m { s with p := upd s.p r p', x := upd s.x r x' } := by
  have hR := h.xs.rep r hr
  have hkp : Kp m.own w w' := hb.kp (h.xs.ob r hr)
  have e := hb.oth
  refine ⟨h.n1, h.n3, (e _ (ne_ty h.row hR (by decide)) ⟨_, h.row⟩).trans h.row, h.oc, ⟨(e _ (ne_ty h.xs.xs hR (by decide)) ⟨_, h.xs.xs⟩).trans h.xs.xs, h.xs.xr, ?_, h.xs.bne, h.xs.ox, h.xs.ob⟩,
    h.ks.on (e _ (ne_ty h.ks.kn hR (by decide)) ⟨_, h.ks.kn⟩) (fun q hq => e _ (ne_ty (h.ks.kc q hq) hR (by decide)) ⟨_, h.ks.kc q hq⟩),
    h.tk.on (e _ (ne_ty h.tk.tk hR (by decide)) ⟨_, h.tk.tk⟩), h.ow.on (e _ (ne_ty h.ow.tk hR (by decide)) ⟨_, h.ow.tk⟩), h.ot, h.oo, h.tno,
    h.ev.on hkp (hb.othRow h.ev.o (row_ne h.ev.o hR (by decide))), h.wi.on hkp (hb.othRow h.wi.o (row_ne h.wi.o hR (by decide))), h.ak.on (hb.othRow h.ak.o (row_ne h.ak.o hR (by decide))), h.wa, ?_, h.tab.kp hkp h.tf, h.tf, fun k hk => Nat.lt_of_lt_of_le (h.lim k hk) hkp.size⟩
  · intro q hq
    show w'.heap[m.b q]? = some (.cells (repArr q s.n (upd s.p r p' q) (upd s.x r x' q)) 69)
    by_cases c : q = r
    · subst c; rw [upd_at, upd_at]; exact hp
    · rw [upd_ne _ _ c, upd_ne _ _ c, e _ (h.xs.bne q r hq hr c) ⟨_, h.xs.rep q hq⟩]; exact h.xs.rep q hq
  · intro hl
    obtain ⟨j, h1, h2, h3, h4⟩ := h.old hl
    exact ⟨j, h1, (e j (ne_ty h2 hR (by decide)) ⟨_, h2⟩).trans h2, h3, h4⟩

/-- The cluster's own row is turned, where nothing else hangs on it. -/
theorem ClAt.row_to (h : ClAt w m s) (hb : Bx m.cb w w') (said : Bs) (err last : Int) (lg st : Bs) (old : Vec) (nevs nwire nacks : Nat) (client : Int) (tok : Bs) (ol : Value) (own : Nat → Prop) (h1 : ∀ k, m.own k → own k) (h2 : ∀ k, own k → m.own k ∨ w.heap.size ≤ k) (h3 : ∀ k, own k → k < w'.heap.size)
    (hrow : w'.heap[m.cb]? = some (.cells (rowA { m with ol := ol, own := own } { s with said := said, err := err, last := last, lg := lg, st := st, old := old, nevs := nevs, nwire := nwire, nacks := nacks, client := client, tok := tok }) 38))
    (hold : 0 ≤ last → OldAt w' { m with ol := ol, own := own } s.n old) :
    ClAt w' { m with ol := ol, own := own } { s with said := said, err := err, last := last, lg := lg, st := st, old := old, nevs := nevs, nwire := nwire, nacks := nacks, client := client, tok := tok } := by
  have hR := h.row
  have hkp : Kp m.own w w' := hb.kp h.oc
  have e := hb.oth
  refine ⟨h.n1, h.n3, hrow, h1 _ h.oc, ⟨(e _ (ne_ty h.xs.xs hR (by decide)) ⟨_, h.xs.xs⟩).trans h.xs.xs, h.xs.xr, ?_, h.xs.bne, h1 _ h.xs.ox, fun r hr => h1 _ (h.xs.ob r hr)⟩,
    ⟨(e _ (ne_ty h.ks.kn hR (by decide)) ⟨_, h.ks.kn⟩).trans h.ks.kn, h.ks.kr, fun q hq => (e _ (ne_ty (h.ks.kc q hq) hR (by decide)) ⟨_, h.ks.kc q hq⟩).trans (h.ks.kc q hq), h.ks.gne, h1 _ h.ks.ok, fun r hr => h1 _ (h.ks.og r hr)⟩,
    h.tk.on (e _ (ne_ty h.tk.tk hR (by decide)) ⟨_, h.tk.tk⟩), h.ow.on (e _ (ne_ty h.ow.tk hR (by decide)) ⟨_, h.ow.tk⟩), h1 _ h.ot, h1 _ h.oo, h.tno,
    ⟨ownsRow_on h.ev.o (hb.othRow h.ev.o (row_ne h.ev.o hR (by decide))), ?_, fun g hg => h1 _ (h.ev.b g hg)⟩, ⟨ownsRow_on h.wi.o (hb.othRow h.wi.o (row_ne h.wi.o hR (by decide))), ?_, fun g hg => h1 _ (h.wi.b g hg)⟩,
    ⟨ownsRow_on h.ak.o (hb.othRow h.ak.o (row_ne h.ak.o hR (by decide))), h.ak.i, fun g hg => h1 _ (h.ak.b g hg)⟩, h.wa, hold, h.tab.kp hkp h.tf, ?_, h3⟩
  · exact fun q hq => (e _ (ne_ty (h.xs.rep q hq) hR (by decide)) ⟨_, h.xs.rep q hq⟩).trans (h.xs.rep q hq)
  · intro i e' he
    obtain ⟨u, a, b⟩ := h.ev.i i e' he
    exact ⟨u, a, b.on hkp h2⟩
  · intro i e' he
    obtain ⟨u, a, b⟩ := h.wi.i i e' he
    exact ⟨u, a, b.on hkp h2⟩
  · intro g hg hog
    rcases h2 g hog with c | c
    · exact h.tf g hg c
    · have := h.tab.lt g hg; omega

/-- What a replica knows is turned. -/
theorem ClAt.vec_to (h : ClAt w m s) {r : Nat} (hr : r < s.n) {V : Vec} (hb : Bx (m.g r) w w') (hp : w'.heap[m.g r]? = some (.cells (intsV (vecL s.n V)) 3)) : ClAt w' m { s with K := upd s.K r V } := by
  have hR := h.ks.kc r hr
  have hkp : Kp m.own w w' := hb.kp (h.ks.og r hr)
  have e := hb.oth
  refine ⟨h.n1, h.n3, (e _ (ne_ty h.row hR (by decide)) ⟨_, h.row⟩).trans h.row, h.oc, h.xs.on (e _ (ne_ty h.xs.xs hR (by decide)) ⟨_, h.xs.xs⟩) (fun q hq => e _ (ne_ty (h.xs.rep q hq) hR (by decide)) ⟨_, h.xs.rep q hq⟩),
    ⟨(e _ (ne_ty h.ks.kn hR (by decide)) ⟨_, h.ks.kn⟩).trans h.ks.kn, h.ks.kr, ?_, h.ks.gne, h.ks.ok, h.ks.og⟩,
    h.tk.on (e _ (ne_ty h.tk.tk hR (by decide)) ⟨_, h.tk.tk⟩), h.ow.on (e _ (ne_ty h.ow.tk hR (by decide)) ⟨_, h.ow.tk⟩), h.ot, h.oo, h.tno,
    h.ev.on hkp (hb.othRow h.ev.o (row_ne h.ev.o hR (by decide))), h.wi.on hkp (hb.othRow h.wi.o (row_ne h.wi.o hR (by decide))), h.ak.on (hb.othRow h.ak.o (row_ne h.ak.o hR (by decide))), h.wa, ?_, h.tab.kp hkp h.tf, h.tf, fun k hk => Nat.lt_of_lt_of_le (h.lim k hk) hkp.size⟩
  · intro q hq
    show w'.heap[m.g q]? = some (.cells (intsV (vecL s.n (upd s.K r V q))) 3)
    by_cases c : q = r
    · subst c; rw [upd_at]; exact hp
    · rw [upd_ne _ _ c, e _ (h.ks.gne q r hq hr c) ⟨_, h.ks.kc q hq⟩]; exact h.ks.kc q hq
  · intro hl
    obtain ⟨j, h1, h2, h3, h4⟩ := h.old hl
    exact ⟨j, h1, (e j (fun c => h4 r hr c.symm) ⟨_, h2⟩).trans h2, h3, h4⟩

/-- A client's token; a replica's own. -/
theorem ClAt.tok_to (h : ClAt w m s) {i : Nat} (hi : i < 3) {t : Bs} (hb : Bx m.tb w w') (hp : w'.heap[m.tb]? = some (.cells (m.ta.setIfInBounds i (.string ⟨t.toArray⟩)) 9)) : ClAt w' { m with ta := m.ta.setIfInBounds i (.string ⟨t.toArray⟩) } { s with toks := upd s.toks i t } := by
  have hR := h.tk.tk
  have hkp : Kp m.own w w' := hb.kp h.ot
  have e := hb.oth
  refine ⟨h.n1, h.n3, (e _ (ne_ty h.row hR (by decide)) ⟨_, h.row⟩).trans h.row, h.oc, ⟨(e _ (ne_ty h.xs.xs hR (by decide)) ⟨_, h.xs.xs⟩).trans h.xs.xs, h.xs.xr, fun q hq => (e _ (ne_ty (h.xs.rep q hq) hR (by decide)) ⟨_, h.xs.rep q hq⟩).trans (h.xs.rep q hq), h.xs.bne, h.xs.ox, h.xs.ob⟩,
    ⟨(e _ (ne_ty h.ks.kn hR (by decide)) ⟨_, h.ks.kn⟩).trans h.ks.kn, h.ks.kr, fun q hq => (e _ (ne_ty (h.ks.kc q hq) hR (by decide)) ⟨_, h.ks.kc q hq⟩).trans (h.ks.kc q hq), h.ks.gne, h.ks.ok, h.ks.og⟩,
    ⟨hp, ?_⟩, h.ow.on (e _ (Ne.symm h.tno) ⟨_, h.ow.tk⟩), h.ot, h.oo, h.tno,
    h.ev.on hkp (hb.othRow h.ev.o (row_ne h.ev.o hR (by decide))), h.wi.on hkp (hb.othRow h.wi.o (row_ne h.wi.o hR (by decide))), h.ak.on (hb.othRow h.ak.o (row_ne h.ak.o hR (by decide))), h.wa, ?_, h.tab.kp hkp h.tf, h.tf, fun k hk => Nat.lt_of_lt_of_le (h.lim k hk) hkp.size⟩
  · intro j hj
    show (m.ta.setIfInBounds i (.string ⟨t.toArray⟩))[j]? = some (.string ⟨(upd s.toks i t j).toArray⟩)
    have hsz : ∀ j, j < 3 → j < m.ta.size := fun j hj => by
      have := h.tk.tr j hj
      exact (Array.getElem?_eq_some_iff.1 this).1
    rw [Array.getElem?_setIfInBounds]
    by_cases c : i = j
    · subst c; rw [if_pos rfl, if_pos (hsz i hi), upd_at]
    · rw [if_neg c, upd_ne _ _ (fun h => c h.symm)]; exact h.tk.tr j hj
  · intro hl
    obtain ⟨j, h1, h2, h3, h4⟩ := h.old hl
    exact ⟨j, h1, (e j (ne_ty h2 hR (by decide)) ⟨_, h2⟩).trans h2, h3, h4⟩
theorem ClAt.own_to (h : ClAt w m s) {i : Nat} (hi : i < s.n) {t : Bs} (hb : Bx m.ob w w') (hp : w'.heap[m.ob]? = some (.cells (m.oa.setIfInBounds i (.string ⟨t.toArray⟩)) 9)) : ClAt w' { m with oa := m.oa.setIfInBounds i (.string ⟨t.toArray⟩) } { s with owns := upd s.owns i t } := by
  have hR := h.ow.tk
  have hkp : Kp m.own w w' := hb.kp h.oo
  have e := hb.oth
  refine ⟨h.n1, h.n3, (e _ (ne_ty h.row hR (by decide)) ⟨_, h.row⟩).trans h.row, h.oc, ⟨(e _ (ne_ty h.xs.xs hR (by decide)) ⟨_, h.xs.xs⟩).trans h.xs.xs, h.xs.xr, fun q hq => (e _ (ne_ty (h.xs.rep q hq) hR (by decide)) ⟨_, h.xs.rep q hq⟩).trans (h.xs.rep q hq), h.xs.bne, h.xs.ox, h.xs.ob⟩,
    ⟨(e _ (ne_ty h.ks.kn hR (by decide)) ⟨_, h.ks.kn⟩).trans h.ks.kn, h.ks.kr, fun q hq => (e _ (ne_ty (h.ks.kc q hq) hR (by decide)) ⟨_, h.ks.kc q hq⟩).trans (h.ks.kc q hq), h.ks.gne, h.ks.ok, h.ks.og⟩,
    h.tk.on (e _ h.tno ⟨_, h.tk.tk⟩), ⟨hp, ?_⟩, h.ot, h.oo, h.tno,
    h.ev.on hkp (hb.othRow h.ev.o (row_ne h.ev.o hR (by decide))), h.wi.on hkp (hb.othRow h.wi.o (row_ne h.wi.o hR (by decide))), h.ak.on (hb.othRow h.ak.o (row_ne h.ak.o hR (by decide))), h.wa, ?_, h.tab.kp hkp h.tf, h.tf, fun k hk => Nat.lt_of_lt_of_le (h.lim k hk) hkp.size⟩
  · intro j hj
    show (m.oa.setIfInBounds i (.string ⟨t.toArray⟩))[j]? = some (.string ⟨(upd s.owns i t j).toArray⟩)
    have hsz : ∀ j, j < s.n → j < m.oa.size := fun j hj => by
      have := h.ow.tr j hj
      exact (Array.getElem?_eq_some_iff.1 this).1
    rw [Array.getElem?_setIfInBounds]
    by_cases c : i = j
    · subst c; rw [if_pos rfl, if_pos (hsz i hi), upd_at]
    · rw [if_neg c, upd_ne _ _ (fun h => c h.symm)]; exact h.ow.tr j hj
  · intro hl
    obtain ⟨j, h1, h2, h3, h4⟩ := h.old hl
    exact ⟨j, h1, (e j (ne_ty h2 hR (by decide)) ⟨_, h2⟩).trans h2, h3, h4⟩

/-- What a step of the cluster leaves. -/
structure Moved (w w' : World) (m m' : CM) (s' : CS) : Prop where
  cl : ClAt w' m' s'
  kp : Kp m.own w w'
  own : ∀ k, m'.own k → m.own k ∨ w.heap.size ≤ k
  cb : m'.cb = m.cb
  sub : ∀ k, m.own k → m'.own k
theorem Moved.tr {w1 w2 w3 : World} {m1 m2 m3 : CM} {s2 s3 : CS} (h : Moved w1 w2 m1 m2 s2) (k : Moved w2 w3 m2 m3 s3) : Moved w1 w3 m1 m3 s3 := by
  refine ⟨k.cl, h.kp.tr' k.kp h.own, fun j hj => ?_, k.cb.trans h.cb, fun j hj => k.sub j (h.sub j hj)⟩
  rcases k.own j hj with c | c
  · exact h.own j c
  · exact .inr (Nat.le_trans h.kp.size c)
end

/-- Cells other than those of a row that grew, and of the cluster's own. -/
theorem grown_oth {w1 w2 : World} {r : Option Nat} {cb o : Nat} {v : Value} (hg : w1.grownBy w2 r) : ∀ j, (∃ o, w1.heap[j]? = some o) → j ≠ cb → r ≠ some j → (w2.setCell ⟨cb, o, none⟩ v).heap[j]? = w1.heap[j]? := by
  rintro j ⟨ob, hj⟩ hc hr
  rw [Below.heap_setCell w2 ⟨cb, o, none⟩ v j hc]
  exact hg.block j (lt_of_blk hj) (fun e => hr e.symm)

section
variable {w1 w2 : World} {m : CM} {s : CS}

theorem grown_set_kp {r : Option Nat} {o : Nat} {v : Value} (h : ClAt w1 m s) (hg : w1.grownBy w2 r) (hF : ∀ g, r = some g → m.own g) : Kp m.own w1 (w2.setCell ⟨m.cb, o, none⟩ v) :=
  (grown_kp hg hF).tr ((Bx.rfl m.cb w2).scs o [v] |>.kp h.oc)

/-- One event more. -/
theorem ClAt.ev_push (h : ClAt w1 m s) (hg : w1.grownBy w2 m.ev.ownBlock) {e : Ev} {u : Value} {g cap : Nat} (hu : FrzV m.own w1 s.n u e.seen) (ho : w2.ownsRow 0 149 7 (.slice (some ⟨g, 0, none⟩) (s.evs.length + 1) cap) (s.evs.length + 1) (flatC m.ef s.evs.length ++ evC e u))
    (hat : m.ev.ownBlock = some g ∨ g = w1.heap.size) :
    Moved w1 (w2.setCell ⟨m.cb, 4, none⟩ (.slice (some ⟨g, 0, none⟩) (s.evs.length + 1) cap)) m { m with ev := .slice (some ⟨g, 0, none⟩) (s.evs.length + 1) cap, ef := upd m.ef s.evs.length (evC e u), own := fun k => m.own k ∨ k = g } { s with evs := s.evs ++ [e] } := by
  have hkp := grown_set_kp (o := 4) (v := .slice (some ⟨g, 0, none⟩) (s.evs.length + 1) cap) h hg h.ev.b
  have h2 : ∀ k, m.own k ∨ k = g → m.own k ∨ w1.heap.size ≤ k := by
    rintro k (c | c)
    · exact .inl c
    · rcases hat with c2 | c2
      · exact .inl (by rw [c]; exact h.ev.b g c2)
      · exact .inr (by omega)
  have hr : ∀ {C : Array Value} {k : Nat} {t : TypeId}, w1.heap[k]? = some (.cells C t) → 149 ≠ t → m.ev.ownBlock ≠ some k := fun hk hne => row_ne h.ev.o hk hne
  have e0 := grown_oth (cb := m.cb) (o := 4) (v := .slice (some ⟨g, 0, none⟩) (s.evs.length + 1) cap) hg
  have er : ∀ {t : TypeId} {sz : Nat} {v : Value} {n : Nat} {xs : List Value}, w1.ownsRow 0 t sz v n xs → 149 ≠ t → t ≠ 38 → ∀ j, v.ownBlock = some j → (w2.setCell ⟨m.cb, 4, none⟩ (.slice (some ⟨g, 0, none⟩) (s.evs.length + 1) cap)).heap[j]? = w1.heap[j]? := by
    intro t sz v n xs hv h1 h2 j hj
    obtain ⟨C, hC⟩ := ownsRow_blk hv hj
    exact e0 j ⟨_, hC⟩ (ne_ty hC h.row h2) (hr hC h1)
  have hlim : ∀ k, m.own k ∨ k = g → k < (w2.setCell ⟨m.cb, 4, none⟩ (.slice (some ⟨g, 0, none⟩) (s.evs.length + 1) cap)).heap.size := by
    rintro k (c | rfl)
    · exact Nat.lt_of_lt_of_le (h.lim k c) hkp.size
    · obtain ⟨C, hC⟩ := ownsRow_blk ho rfl
      have := lt_of_blk hC
      simpa using this
  have hrow2 : w2.heap[m.cb]? = some (.cells (rowA m s) 38) := (hg.block m.cb (lt_of_blk h.row) (fun c => hr h.row (by decide) c.symm)).trans h.row
  refine ⟨⟨h.n1, h.n3, ?_, .inl h.oc, ⟨(e0 _ ⟨_, h.xs.xs⟩ (ne_ty h.xs.xs h.row (by decide)) (hr h.xs.xs (by decide))).trans h.xs.xs, h.xs.xr, fun r hr' => (e0 _ ⟨_, h.xs.rep r hr'⟩ (ne_ty (h.xs.rep r hr') h.row (by decide)) (hr (h.xs.rep r hr') (by decide))).trans (h.xs.rep r hr'), h.xs.bne, .inl h.xs.ox, fun r hr' => .inl (h.xs.ob r hr')⟩,
    ⟨(e0 _ ⟨_, h.ks.kn⟩ (ne_ty h.ks.kn h.row (by decide)) (hr h.ks.kn (by decide))).trans h.ks.kn, h.ks.kr, fun r hr' => (e0 _ ⟨_, h.ks.kc r hr'⟩ (ne_ty (h.ks.kc r hr') h.row (by decide)) (hr (h.ks.kc r hr') (by decide))).trans (h.ks.kc r hr'), h.ks.gne, .inl h.ks.ok, fun r hr' => .inl (h.ks.og r hr')⟩,
    h.tk.on (e0 _ ⟨_, h.tk.tk⟩ (ne_ty h.tk.tk h.row (by decide)) (hr h.tk.tk (by decide))), h.ow.on (e0 _ ⟨_, h.ow.tk⟩ (ne_ty h.ow.tk h.row (by decide)) (hr h.ow.tk (by decide))), .inl h.ot, .inl h.oo, h.tno, ?_,
    ⟨ownsRow_on h.wi.o (er h.wi.o (by decide) (by decide)), ?_, fun j hj => .inl (h.wi.b j hj)⟩, ⟨ownsRow_on h.ak.o (er h.ak.o (by decide) (by decide)), h.ak.i, fun j hj => .inl (h.ak.b j hj)⟩, h.wa, ?_, h.tab.kp hkp h.tf, ?_, hlim⟩, hkp, h2, rfl, fun k hk => Or.inl hk⟩
  · rw [heap_setCell_self hrow2]; rfl
  · refine ⟨?_, ?_, ?_⟩
    · have hl : (s.evs ++ [e]).length = s.evs.length + 1 := by simp
      have hf : flatC (upd m.ef s.evs.length (evC e u)) (s.evs ++ [e]).length = flatC m.ef s.evs.length ++ evC e u := by
        rw [hl, flatC_succ, upd_at, flatC_congr (fun i hi => upd_ne m.ef (evC e u) (show i ≠ s.evs.length by omega))]
      show (w2.setCell ⟨m.cb, 4, none⟩ _).ownsRow 0 149 7 (.slice (some ⟨g, 0, none⟩) (s.evs.length + 1) cap) (s.evs ++ [e]).length (flatC (upd m.ef s.evs.length (evC e u)) (s.evs ++ [e]).length)
      rw [hf, hl]
      refine ownsRow_on ho fun j hj => Below.heap_setCell w2 ⟨m.cb, 4, none⟩ _ j ?_
      obtain ⟨C, hC⟩ := ownsRow_blk ho hj
      exact ne_ty hC hrow2 (by decide)
    · intro i e' he
      show ∃ v, upd m.ef s.evs.length (evC e u) i = evC e' v ∧ FrzV _ _ s.n v e'.seen
      by_cases c : i < s.evs.length
      · rw [List.getElem?_append_left c] at he
        rw [upd_ne _ _ (by omega)]
        obtain ⟨v, h3, h4⟩ := h.ev.i i e' he
        exact ⟨v, h3, h4.on hkp h2⟩
      · have hi : i = s.evs.length := by
          have := (List.getElem?_eq_some_iff.1 he).1
          simp at this; omega
        subst hi
        have : e' = e := by simpa using he.symm
        subst this
        rw [upd_at]
        exact ⟨u, rfl, hu.on hkp h2⟩
    · intro j hj
      right
      have : g = j := by simpa [Value.ownBlock] using hj
      exact this.symm
  · intro i e' he
    obtain ⟨v, h3, h4⟩ := h.wi.i i e' he
    exact ⟨v, h3, h4.on hkp h2⟩
  · intro hl
    obtain ⟨j, h3, h4, h5, h6⟩ := h.old hl
    exact ⟨j, h3, (e0 j ⟨_, h4⟩ (ne_ty h4 h.row (by decide)) (hr h4 (by decide))).trans h4, .inl h5, h6⟩
  · intro j hj hoj
    rcases h2 j hoj with c | c
    · exact h.tf j hj c
    · have := h.tab.lt j hj; omega

/-- One message more. -/
theorem ClAt.wi_push (h : ClAt w1 m s) (hg : w1.grownBy w2 m.wv.ownBlock) {e : Mail} {u : Value} {g cap : Nat} (hu : FrzV m.own w1 s.n u e.knows) (ho : w2.ownsRow 0 104 4 (.slice (some ⟨g, 0, none⟩) (s.wire.length + 1) cap) (s.wire.length + 1) (flatC m.wf s.wire.length ++ mailC e u))
    (hat : m.wv.ownBlock = some g ∨ g = w1.heap.size) :
    Moved w1 (w2.setCell ⟨m.cb, 5, none⟩ (.slice (some ⟨g, 0, none⟩) (s.wire.length + 1) cap)) m { m with wv := .slice (some ⟨g, 0, none⟩) (s.wire.length + 1) cap, wf := upd m.wf s.wire.length (mailC e u), own := fun k => m.own k ∨ k = g } { s with wire := s.wire ++ [e] } := by
  have hkp := grown_set_kp (o := 5) (v := .slice (some ⟨g, 0, none⟩) (s.wire.length + 1) cap) h hg h.wi.b
  have h2 : ∀ k, m.own k ∨ k = g → m.own k ∨ w1.heap.size ≤ k := by
    rintro k (c | c)
    · exact .inl c
    · rcases hat with c2 | c2
      · exact .inl (by rw [c]; exact h.wi.b g c2)
      · exact .inr (by omega)
  have hr : ∀ {C : Array Value} {k : Nat} {t : TypeId}, w1.heap[k]? = some (.cells C t) → 104 ≠ t → m.wv.ownBlock ≠ some k := fun hk hne => row_ne h.wi.o hk hne
  have e0 := grown_oth (cb := m.cb) (o := 5) (v := .slice (some ⟨g, 0, none⟩) (s.wire.length + 1) cap) hg
  have hlim : ∀ k, m.own k ∨ k = g → k < (w2.setCell ⟨m.cb, 5, none⟩ (.slice (some ⟨g, 0, none⟩) (s.wire.length + 1) cap)).heap.size := by
    rintro k (c | rfl)
    · exact Nat.lt_of_lt_of_le (h.lim k c) hkp.size
    · obtain ⟨C, hC⟩ := ownsRow_blk ho rfl
      have := lt_of_blk hC
      simpa using this
  have hrow2 : w2.heap[m.cb]? = some (.cells (rowA m s) 38) := (hg.block m.cb (lt_of_blk h.row) (fun c => hr h.row (by decide) c.symm)).trans h.row
  have eE : ∀ j, m.ev.ownBlock = some j → (w2.setCell ⟨m.cb, 5, none⟩ (.slice (some ⟨g, 0, none⟩) (s.wire.length + 1) cap)).heap[j]? = w1.heap[j]? := by
    intro j hj
    obtain ⟨C, hC⟩ := ownsRow_blk h.ev.o hj
    exact e0 j ⟨_, hC⟩ (ne_ty hC h.row (by decide)) (hr hC (by decide))
  have eA : ∀ j, m.av.ownBlock = some j → (w2.setCell ⟨m.cb, 5, none⟩ (.slice (some ⟨g, 0, none⟩) (s.wire.length + 1) cap)).heap[j]? = w1.heap[j]? := by
    intro j hj
    obtain ⟨C, hC⟩ := ownsRow_blk h.ak.o hj
    exact e0 j ⟨_, hC⟩ (ne_ty hC h.row (by decide)) (fun c => h.wa j c hj)
  refine ⟨⟨h.n1, h.n3, ?_, .inl h.oc, ⟨(e0 _ ⟨_, h.xs.xs⟩ (ne_ty h.xs.xs h.row (by decide)) (hr h.xs.xs (by decide))).trans h.xs.xs, h.xs.xr, fun r hr' => (e0 _ ⟨_, h.xs.rep r hr'⟩ (ne_ty (h.xs.rep r hr') h.row (by decide)) (hr (h.xs.rep r hr') (by decide))).trans (h.xs.rep r hr'), h.xs.bne, .inl h.xs.ox, fun r hr' => .inl (h.xs.ob r hr')⟩,
    ⟨(e0 _ ⟨_, h.ks.kn⟩ (ne_ty h.ks.kn h.row (by decide)) (hr h.ks.kn (by decide))).trans h.ks.kn, h.ks.kr, fun r hr' => (e0 _ ⟨_, h.ks.kc r hr'⟩ (ne_ty (h.ks.kc r hr') h.row (by decide)) (hr (h.ks.kc r hr') (by decide))).trans (h.ks.kc r hr'), h.ks.gne, .inl h.ks.ok, fun r hr' => .inl (h.ks.og r hr')⟩,
    h.tk.on (e0 _ ⟨_, h.tk.tk⟩ (ne_ty h.tk.tk h.row (by decide)) (hr h.tk.tk (by decide))), h.ow.on (e0 _ ⟨_, h.ow.tk⟩ (ne_ty h.ow.tk h.row (by decide)) (hr h.ow.tk (by decide))), .inl h.ot, .inl h.oo, h.tno,
    ⟨ownsRow_on h.ev.o eE, ?_, fun j hj => .inl (h.ev.b j hj)⟩, ?_, ⟨ownsRow_on h.ak.o eA, h.ak.i, fun j hj => .inl (h.ak.b j hj)⟩, ?_, ?_, h.tab.kp hkp h.tf, ?_, hlim⟩, hkp, h2, rfl, fun k hk => Or.inl hk⟩
  · rw [heap_setCell_self hrow2]; rfl
  · intro i e' he
    obtain ⟨v, h3, h4⟩ := h.ev.i i e' he
    exact ⟨v, h3, h4.on hkp h2⟩
  · refine ⟨?_, ?_, ?_⟩
    · have hl : (s.wire ++ [e]).length = s.wire.length + 1 := by simp
      have hf : flatC (upd m.wf s.wire.length (mailC e u)) (s.wire ++ [e]).length = flatC m.wf s.wire.length ++ mailC e u := by
        rw [hl, flatC_succ, upd_at, flatC_congr (fun i hi => upd_ne m.wf (mailC e u) (show i ≠ s.wire.length by omega))]
      show (w2.setCell ⟨m.cb, 5, none⟩ _).ownsRow 0 104 4 (.slice (some ⟨g, 0, none⟩) (s.wire.length + 1) cap) (s.wire ++ [e]).length (flatC (upd m.wf s.wire.length (mailC e u)) (s.wire ++ [e]).length)
      rw [hf, hl]
      refine ownsRow_on ho fun j hj => Below.heap_setCell w2 ⟨m.cb, 5, none⟩ _ j ?_
      obtain ⟨C, hC⟩ := ownsRow_blk ho hj
      exact ne_ty hC hrow2 (by decide)
    · intro i e' he
      show ∃ v, upd m.wf s.wire.length (mailC e u) i = mailC e' v ∧ FrzV _ _ s.n v e'.knows
      by_cases c : i < s.wire.length
      · rw [List.getElem?_append_left c] at he
        rw [upd_ne _ _ (by omega)]
        obtain ⟨v, h3, h4⟩ := h.wi.i i e' he
        exact ⟨v, h3, h4.on hkp h2⟩
      · have hi : i = s.wire.length := by
          have := (List.getElem?_eq_some_iff.1 he).1
          simp at this; omega
        subst hi
        have : e' = e := by simpa using he.symm
        subst this
        rw [upd_at]
        exact ⟨u, rfl, hu.on hkp h2⟩
    · intro j hj
      right
      have : g = j := by simpa [Value.ownBlock] using hj
      exact this.symm
  · intro j hj
    have : g = j := by simpa [Value.ownBlock] using hj
    subst this
    rcases hat with c | c
    · exact h.wa g c
    · intro hj2
      obtain ⟨C, hC⟩ := ownsRow_blk h.ak.o hj2
      have := lt_of_blk hC; omega
  · intro hl
    obtain ⟨j, h3, h4, h5, h6⟩ := h.old hl
    exact ⟨j, h3, (e0 j ⟨_, h4⟩ (ne_ty h4 h.row (by decide)) (hr h4 (by decide))).trans h4, .inl h5, h6⟩
  · intro j hj hoj
    rcases h2 j hoj with c | c
    · exact h.tf j hj c
    · have := h.tab.lt j hj; omega

/-- One answer more. -/
theorem ClAt.ak_push (h : ClAt w1 m s) (hg : w1.grownBy w2 m.av.ownBlock) {e : Mail} {g cap : Nat} (ho : w2.ownsRow 0 104 4 (.slice (some ⟨g, 0, none⟩) (s.acks.length + 1) cap) (s.acks.length + 1) (flatC m.af s.acks.length ++ mailC e (.slice none 0 0)))
    (hat : m.av.ownBlock = some g ∨ g = w1.heap.size) :
    Moved w1 (w2.setCell ⟨m.cb, 6, none⟩ (.slice (some ⟨g, 0, none⟩) (s.acks.length + 1) cap)) m { m with av := .slice (some ⟨g, 0, none⟩) (s.acks.length + 1) cap, af := upd m.af s.acks.length (mailC e (.slice none 0 0)), own := fun k => m.own k ∨ k = g } { s with acks := s.acks ++ [e] } := by
  have hkp := grown_set_kp (o := 6) (v := .slice (some ⟨g, 0, none⟩) (s.acks.length + 1) cap) h hg h.ak.b
  have h2 : ∀ k, m.own k ∨ k = g → m.own k ∨ w1.heap.size ≤ k := by
    rintro k (c | c)
    · exact .inl c
    · rcases hat with c2 | c2
      · exact .inl (by rw [c]; exact h.ak.b g c2)
      · exact .inr (by omega)
  have hr : ∀ {C : Array Value} {k : Nat} {t : TypeId}, w1.heap[k]? = some (.cells C t) → 104 ≠ t → m.av.ownBlock ≠ some k := fun hk hne => row_ne h.ak.o hk hne
  have e0 := grown_oth (cb := m.cb) (o := 6) (v := .slice (some ⟨g, 0, none⟩) (s.acks.length + 1) cap) hg
  have hlim : ∀ k, m.own k ∨ k = g → k < (w2.setCell ⟨m.cb, 6, none⟩ (.slice (some ⟨g, 0, none⟩) (s.acks.length + 1) cap)).heap.size := by
    rintro k (c | rfl)
    · exact Nat.lt_of_lt_of_le (h.lim k c) hkp.size
    · obtain ⟨C, hC⟩ := ownsRow_blk ho rfl
      have := lt_of_blk hC
      simpa using this
  have hrow2 : w2.heap[m.cb]? = some (.cells (rowA m s) 38) := (hg.block m.cb (lt_of_blk h.row) (fun c => hr h.row (by decide) c.symm)).trans h.row
  have eE : ∀ j, m.ev.ownBlock = some j → (w2.setCell ⟨m.cb, 6, none⟩ (.slice (some ⟨g, 0, none⟩) (s.acks.length + 1) cap)).heap[j]? = w1.heap[j]? := by
    intro j hj
    obtain ⟨C, hC⟩ := ownsRow_blk h.ev.o hj
    exact e0 j ⟨_, hC⟩ (ne_ty hC h.row (by decide)) (hr hC (by decide))
  have eW : ∀ j, m.wv.ownBlock = some j → (w2.setCell ⟨m.cb, 6, none⟩ (.slice (some ⟨g, 0, none⟩) (s.acks.length + 1) cap)).heap[j]? = w1.heap[j]? := by
    intro j hj
    obtain ⟨C, hC⟩ := ownsRow_blk h.wi.o hj
    exact e0 j ⟨_, hC⟩ (ne_ty hC h.row (by decide)) (fun c => h.wa j hj c)
  refine ⟨⟨h.n1, h.n3, ?_, .inl h.oc, ⟨(e0 _ ⟨_, h.xs.xs⟩ (ne_ty h.xs.xs h.row (by decide)) (hr h.xs.xs (by decide))).trans h.xs.xs, h.xs.xr, fun r hr' => (e0 _ ⟨_, h.xs.rep r hr'⟩ (ne_ty (h.xs.rep r hr') h.row (by decide)) (hr (h.xs.rep r hr') (by decide))).trans (h.xs.rep r hr'), h.xs.bne, .inl h.xs.ox, fun r hr' => .inl (h.xs.ob r hr')⟩,
    ⟨(e0 _ ⟨_, h.ks.kn⟩ (ne_ty h.ks.kn h.row (by decide)) (hr h.ks.kn (by decide))).trans h.ks.kn, h.ks.kr, fun r hr' => (e0 _ ⟨_, h.ks.kc r hr'⟩ (ne_ty (h.ks.kc r hr') h.row (by decide)) (hr (h.ks.kc r hr') (by decide))).trans (h.ks.kc r hr'), h.ks.gne, .inl h.ks.ok, fun r hr' => .inl (h.ks.og r hr')⟩,
    h.tk.on (e0 _ ⟨_, h.tk.tk⟩ (ne_ty h.tk.tk h.row (by decide)) (hr h.tk.tk (by decide))), h.ow.on (e0 _ ⟨_, h.ow.tk⟩ (ne_ty h.ow.tk h.row (by decide)) (hr h.ow.tk (by decide))), .inl h.ot, .inl h.oo, h.tno,
    ⟨ownsRow_on h.ev.o eE, ?_, fun j hj => .inl (h.ev.b j hj)⟩, ⟨ownsRow_on h.wi.o eW, ?_, fun j hj => .inl (h.wi.b j hj)⟩, ?_, ?_, ?_, h.tab.kp hkp h.tf, ?_, hlim⟩, hkp, h2, rfl, fun k hk => Or.inl hk⟩
  · rw [heap_setCell_self hrow2]; rfl
  · intro i e' he
    obtain ⟨v, h3, h4⟩ := h.ev.i i e' he
    exact ⟨v, h3, h4.on hkp h2⟩
  · intro i e' he
    obtain ⟨v, h3, h4⟩ := h.wi.i i e' he
    exact ⟨v, h3, h4.on hkp h2⟩
  · refine ⟨?_, ?_, ?_⟩
    · have hl : (s.acks ++ [e]).length = s.acks.length + 1 := by simp
      have hf : flatC (upd m.af s.acks.length (mailC e (.slice none 0 0))) (s.acks ++ [e]).length = flatC m.af s.acks.length ++ mailC e (.slice none 0 0) := by
        rw [hl, flatC_succ, upd_at, flatC_congr (fun i hi => upd_ne m.af (mailC e (.slice none 0 0)) (show i ≠ s.acks.length by omega))]
      show (w2.setCell ⟨m.cb, 6, none⟩ _).ownsRow 0 104 4 (.slice (some ⟨g, 0, none⟩) (s.acks.length + 1) cap) (s.acks ++ [e]).length (flatC (upd m.af s.acks.length (mailC e (.slice none 0 0))) (s.acks ++ [e]).length)
      rw [hf, hl]
      refine ownsRow_on ho fun j hj => Below.heap_setCell w2 ⟨m.cb, 6, none⟩ _ j ?_
      obtain ⟨C, hC⟩ := ownsRow_blk ho hj
      exact ne_ty hC hrow2 (by decide)
    · intro i e' he
      show upd m.af s.acks.length (mailC e (.slice none 0 0)) i = mailC e' (.slice none 0 0)
      by_cases c : i < s.acks.length
      · rw [List.getElem?_append_left c] at he
        rw [upd_ne _ _ (by omega)]
        exact h.ak.i i e' he
      · have hi : i = s.acks.length := by
          have := (List.getElem?_eq_some_iff.1 he).1
          simp at this; omega
        subst hi
        have : e' = e := by simpa using he.symm
        subst this
        rw [upd_at]
    · intro j hj
      right
      have : g = j := by simpa [Value.ownBlock] using hj
      exact this.symm
  · intro j hj hj2
    have : g = j := by simpa [Value.ownBlock] using hj2
    subst this
    rcases hat with c | c
    · exact h.wa g hj c
    · obtain ⟨C, hC⟩ := ownsRow_blk h.wi.o hj
      have := lt_of_blk hC; omega
  · intro hl
    obtain ⟨j, h3, h4, h5, h6⟩ := h.old hl
    exact ⟨j, h3, (e0 j ⟨_, h4⟩ (ne_ty h4 h.row (by decide)) (hr h4 (by decide))).trans h4, .inl h5, h6⟩
  · intro j hj hoj
    rcases h2 j hoj with c | c
    · exact h.tf j hj c
    · have := h.tab.lt j hj; omega
end
end Go.Proofs.YtalaldfgjgpacaaGreatDoor

namespace Go.Proofs.YtalaldfgjgpacaaGreatDoor
set_option linter.unusedVariables false
set_option linter.unusedSimpArgs false
open Go.ChangeShapes Go.WideShapes Go.ChangeAt Go.RowKit Go.Deep
attribute [local go_sem ↓] Go.wp_at_zero Go.wp_at_succ

theorem own : ownKnob Tryz.prog.godebug = none := by kernel_rfl
theorem laidOut : laidOutB Tryz.prog = true := by kernel_rfl
theorem cells31 : Tryz.prog.cellsOf 46 = 7 := by kernel_rfl
theorem bytes31 : Tryz.prog.bytesOf 46 = 64 := by kernel_rfl
theorem cells3 : Tryz.prog.cellsOf 3 = 1 := by kernel_rfl
theorem cells9 : Tryz.prog.cellsOf 9 = 1 := by kernel_rfl
theorem gPow : Tryz.prog.globalNamed "internal/strconv.uint64pow10" = some 0 := by kernel_rfl
theorem gPowType : (Tryz.prog.globals[0]?).map (·.type) = some 172 := by kernel_rfl
theorem cells94 : Tryz.prog.cellsOf 172 = 20 := by kernel_rfl
theorem cells88 : Tryz.prog.cellsOf 166 = 1 := by kernel_rfl

theorem powData : (Rows.laid_internal_strconv_uint64pow10 : DataW Unit) = Lib.tabData .u64 Lib.pow10Tab := by kernel_rfl

theorem weights_mem_all {H : Type} {P : Program} {e : TypeId} : ∀ {l : List (DataW H)} {d : DataW H}, d ∈ l → ∀ n ∈ d.weights P e, n ∈ DataW.weightsAll P e l
  | x :: r, d, hd, n, hn => by
    simp only [DataW.weightsAll, List.mem_append]
    rcases List.mem_cons.1 hd with rfl | h
    · exact .inl hn
    · exact .inr (weights_mem_all h n hn)

theorem wf_bd {z : Int} (h : (Lit.int .i64 z).wf = true) : i64ok z := by
  simp only [Lit.wf, Bool.and_eq_true, decide_eq_true_eq] at h
  have h1 : IntKind.i64.min = -9223372036854775808 := by decide
  have h2 : IntKind.i64.max = 9223372036854775807 := by decide
  unfold i64ok
  omega

section
variable {H : Type} {enc : TypeId × Value → H}

set_option maxRecDepth 100000 in
/-- One step of the script, read. -/
theorem open_opO {W : World} {n : Nat} {a : Addr} {cs : List Value} {x : DataW H × List MemPlace} (hcs : W.cells? 0 a 7 = some cs) (h : DataW.trod enc Tryz.prog W 0 (fun _ => true) true n 46 cs = some x) :
    ∃ o : OpR, (∀ j, j < 7 → W.cell? (a.add j) = o.cells[j]?) ∧ o.s.data.toList.length ∈ x.1.weights Tryz.prog 46 ∧ o.ok := by
  obtain ⟨_, hl, hcell⟩ := World.cells?_some hcs
  obtain ⟨xs, n', _, rfl, _, hlen, hf⟩ := DataW.trod_struct Tryz.underlying46 h
  match cs, hl with
  | [c0, c1, c2, c3, c4, c5, c6], _ =>
    match xs, hlen with
    | [y0, y1, y2, y3, y4, y5, y6], _ =>
      have f0 := hf 0 _ rfl
      have f1 := hf 1 _ rfl
      have f2 := hf 2 _ rfl
      have f3 := hf 3 _ rfl
      have f4 := hf 4 _ rfl
      have f5 := hf 5 _ rfl
      have f6 := hf 6 _ rfl
      simp [cells3] at f0
      simp [cells3] at f1
      simp [cells3] at f2
      simp [cells3] at f3
      simp [cells3] at f4
      simp [cells3] at f5
      simp [cells9] at f6
      obtain ⟨z0, e0, _, _⟩ := DataW.trod_int Tryz.underlying3 f0
      obtain ⟨z1, e1, _, v1⟩ := DataW.trod_int Tryz.underlying3 f1
      obtain ⟨z2, e2, _, v2⟩ := DataW.trod_int Tryz.underlying3 f2
      obtain ⟨z3, e3, _, v3⟩ := DataW.trod_int Tryz.underlying3 f3
      obtain ⟨z4, e4, _, v4⟩ := DataW.trod_int Tryz.underlying3 f4
      obtain ⟨z5, e5, _, v5⟩ := DataW.trod_int Tryz.underlying3 f5
      obtain ⟨s, e6, rfl, _⟩ := DataW.trod_string Tryz.underlying9 f6
      simp only [List.cons.injEq, and_true] at e0 e1 e2 e3 e4 e5 e6
      subst e0 e1 e2 e3 e4 e5 e6
      refine ⟨⟨z0, z1, z2, z3, z4, z5, s⟩, hcell, ?_, ⟨wf_bd v1, wf_bd v2, wf_bd v3, wf_bd v4, wf_bd v5⟩⟩
      rw [DataW.weights]
      simp only [Tryz.underlying46]
      exact DataW.weights_mem_each (j := 6) rfl rfl _ (by simp [DataW.weights])

/-- A script as it comes in. -/
structure ScriptAt (w : World) (v : Value) (ad : Option Addr) (len cap : Nat) (ops : Nat → OpR) : Prop where
  val : v = .slice ad len cap
  lies : 0 < len → ∃ sb off, ad = some ⟨sb, off, none⟩ ∧ Lies ops len sb off w ∧ sb < w.heap.size
  small : len * 64 ≤ 140737488351232
  texts : ∀ i, i < len → (ops i).s.size ≤ 140737488355328
  ok : ∀ i, i < len → (ops i).ok

set_option maxRecDepth 100000 in
/-- The script, read: it is empty, or its steps lie in a block. -/
theorem open_scriptO {W : World} {v0 : Value} {d0 : DataW H} {p0 : List MemPlace} {ts : List TypeId} {ds : List (DataW H)} (h0 : DataW.Trod enc Tryz.prog W 0 (fun _ => true) true 22 v0 d0 p0)
    (hsz : (DataW.weightsEach Tryz.prog (22 :: ts) (d0 :: ds)).all (· ≤ reachBytes) = true) (hv : ∃ a len cap, v0 = .slice a len cap) :
    ∃ (ad : Option Addr) (len cap : Nat) (ops : Nat → OpR), ScriptAt W v0 ad len cap ops := by
  obtain ⟨a, len, cap, rfl⟩ := hv
  obtain ⟨fuel, hf⟩ := h0
  rcases open_slice Tryz.underlying22 hf with ⟨hcs, _⟩ | ⟨a', len', cap', m, n, D, Pl, hcs, _, hl, _, hm, hx, hall⟩
  · simp [Value.cells] at hcs
    obtain ⟨rfl, rfl, rfl⟩ := hcs
    exact ⟨none, 0, 0, fun _ => ⟨0, 0, 0, 0, 0, 0, ByteArray.empty⟩, rfl, fun h => absurd h (Nat.lt_irrefl 0), by omega, fun i hi => absurd hi (Nat.not_lt_zero i), fun i hi => absurd hi (Nat.not_lt_zero i)⟩
  · simp [Value.cells] at hcs
    obtain ⟨rfl, rfl, rfl⟩ := hcs
    simp only [if_true] at hm
    subst hm
    by_cases h0 : len = 0
    · subst h0; exact ⟨_, 0, _, fun _ => ⟨0, 0, 0, 0, 0, 0, ByteArray.empty⟩, rfl, fun h => absurd h (Nat.lt_irrefl 0), by omega, fun i hi => absurd hi (Nat.not_lt_zero i), fun i hi => absurd hi (Nat.not_lt_zero i)⟩
    · obtain ⟨hx1, _⟩ := Prod.mk.inj hx
      subst hx1
      have hch : ∀ i, ∃ o : OpR, i < len → (∀ j, j < 7 → W.cell? ((a'.add (i * 7)).add j) = o.cells[j]?) ∧ o.s.data.toList.length ∈ (D i).weights Tryz.prog 46 ∧ o.ok := fun i => by
        by_cases hi : i < len
        · obtain ⟨cs', hc1, hc2⟩ := hall i (by omega)
          rw [cells31] at hc1
          obtain ⟨o, ho1, ho2, ho3⟩ := open_opO hc1 hc2
          exact ⟨o, fun _ => ⟨ho1, ho2, ho3⟩⟩
        · exact ⟨⟨0, 0, 0, 0, 0, 0, ByteArray.empty⟩, fun h => absurd h hi⟩
      obtain ⟨ops, hops⟩ : ∃ ops : Nat → OpR, ∀ i, i < len → (∀ j, j < 7 → W.cell? ((a'.add (i * 7)).add j) = (ops i).cells[j]?) ∧ (ops i).s.data.toList.length ∈ (D i).weights Tryz.prog 46 ∧ (ops i).ok :=
        ⟨fun i => Classical.choose (hch i), fun i => Classical.choose_spec (hch i)⟩
      clear hch
      obtain ⟨sb, off, spot⟩ := a'
      have hfirst := (hops 0 (by omega)).1 0 (by omega)
      have hspot : spot = none := by
        have := World.cell?_spot (show W.cell? (((⟨sb, off, spot⟩ : Addr).add (0 * 7)).add 0) = some _ from hfirst)
        simpa [Addr.add] using this
      subst hspot
      have hsl := sized_slice hsz (j := 0) rfl rfl Tryz.underlying22
      rw [bytes31] at hsl
      simp only [List.length_map, List.length_range] at hsl
      refine ⟨_, len, m, ops, rfl, fun _ => ⟨sb, off, rfl, ?_, ?_⟩, ?_, ?_, fun i hi => (hops i hi).2.2⟩
      · intro i hi
        have hc := (hops i hi).1
        generalize ops i = o at *
        have e : ∀ j, ((⟨sb, off, none⟩ : Addr).add (i * 7)).add j = ⟨sb, off + i * 7 + j, none⟩ := fun j => by
          unfold Addr.add
          by_cases h1 : i * 7 = 0 <;> by_cases h2 : j = 0 <;> simp [h1, h2]
        have c0 := hc 0 (by omega)
        have c1 := hc 1 (by omega)
        have c2 := hc 2 (by omega)
        have c3 := hc 3 (by omega)
        have c4 := hc 4 (by omega)
        have c5 := hc 5 (by omega)
        have c6 := hc 6 (by omega)
        rw [e] at c0 c1 c2 c3 c4 c5 c6
        exact ⟨c0, c1, c2, c3, c4, c5, c6⟩
      · have := World.block_lt_of_cell? W _ (show W.cell? (((⟨sb, off, none⟩ : Addr).add (0 * 7)).add 0) = some _ from hfirst)
        simpa [Addr.add] using this
      · unfold reachBytes at hsl; omega
      · intro i hi
        have hw := (hops i hi).2.1
        generalize ops i = o at *
        have hmem : o.s.data.toList.length ∈ DataW.weightsEach Tryz.prog (22 :: ts) (DataW.slice ((List.range len).map D) ((List.range (m - len)).map fun j => D (len + j)) :: ds) := by
          refine DataW.weights_mem_each (j := 0) rfl rfl _ ?_
          rw [DataW.weights]
          simp only [Tryz.underlying22]
          refine List.mem_cons_of_mem _ (List.mem_append_left _ ?_)
          exact weights_mem_all (List.mem_map.2 ⟨i, List.mem_range.2 hi, rfl⟩) _ hw
        have := List.all_eq_true.1 hsz _ hmem
        have h2 : o.s.data.toList.length = o.s.size := Array.length_toList
        simp only [decide_eq_true_eq] at this
        unfold reachBytes at this
        omega
end

set_option maxHeartbeats 400000 in
/-- small, whatever the script. -/
theorem small_at {w : World} {v : Value} {ad : Option Addr} {len cap : Nat} {ops : Nat → OpR} (h : ScriptAt w v ad len cap ops) :
    Calls Tryz.prog 14 #[v] w fun e w' => (e = .returned (.bool true) ∧ len ≤ 1048576 ∨ e = .returned (.bool false)) ∧ w' = w := by
  obtain ⟨rfl, h1, h2, h3, _⟩ := h
  by_cases h0 : 0 < len
  · obtain ⟨sb, off, rfl, hL, _⟩ := h1 h0
    exact small_any ops len cap sb off w (by unfold maxLen; omega) h3 hL
  · have h0' : len = 0 := by omega
    subst h0'
    clear h1 h2 h3
    go_enter Tryz.func14, Tryz.ntmps14
    go_wp2
    refine wp_loop_once ?_
    go_wp2
    go_ret
    exact ⟨.inl ⟨rfl, by omega⟩, rfl⟩
end Go.Proofs.YtalaldfgjgpacaaGreatDoor
