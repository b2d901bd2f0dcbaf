import Derived.Test.YtalaldfgjgpacaaGreatDoorHAW
import Derived.Test.YtalaldfgjgpacaaGreatDoorX8
namespace Go.Proofs.YtalaldfgjgpacaaGreatDoor
set_option linter.unusedVariables false
set_option linter.unusedSimpArgs false
open Go.RowKit

theorem dig_rep {d : Nat} (h : d < 3) : isRepB (dig d) = true := by
  rw [isRepB_iff, dig_toNat d (by omega)]; omega
theorem head_ok {f q c : Nat} (hf : f < 3) (hq : q < 3) (hc : c < 100) : hdOk (dig f) (dig q) (dig (c / 10)) (dig (c % 10)) = true := by
  unfold hdOk
  rw [dig_rep hf, dig_rep hq, isDig_dig (by omega), isDig_dig (by omega)]; rfl
theorem head_num {c : Nat} (hc : c < 100) : ((dig (c / 10)).toNat - 48) * 10 + ((dig (c % 10)).toNat - 48) = c := by
  rw [dig_sub (by omega), dig_sub (by omega)]; omega

/-- An answer at a replica. -/
theorem acked_head (b me n f q c : Nat) (p : Pc) (x : Ext) (er : Int) (x' : Ext) (w : World) (hf : f < 3) (hq : q < 3) (hc : c < 100) (hh : x.had < 100) (hk : x.ack f < 1000) (hS : AckSpec true (forMe me n f q) f c x er x')
    (h : w.heap[b]? = some (.cells (repArr me n p x) 69)) :
    Calls Tryz.prog 58 #[.pointer (some ⟨b, 0, none⟩), .string ⟨(headL 65 f q c).toArray⟩] w fun e w' => e = .returned (.int .i64 er) ∧ RepTo b me n p x' w w' := by
  have hd := head_ok hf hq hc
  have hn := head_num hc
  match f, hf with
  | 0, _ => exact acked_at0 b me n p x 65 (dig 0) (dig q) (dig (c / 10)) (dig (c % 10)) true _ c er x' _ w rfl (by rw [hd]; rfl) (by decide) hn.symm (by rw [dig_sub (show q ≤ 9 by omega)]) hS hh h hd hk hc
  | 1, _ => exact acked_at1 b me n p x 65 (dig 1) (dig q) (dig (c / 10)) (dig (c % 10)) true _ c er x' _ w rfl (by rw [hd]; rfl) (by decide) hn.symm (by rw [dig_sub (show q ≤ 9 by omega)]) hS hh h hd hk hc
  | 2, _ => exact acked_at2 b me n p x 65 (dig 2) (dig q) (dig (c / 10)) (dig (c % 10)) true _ c er x' _ w rfl (by rw [hd]; rfl) (by decide) hn.symm (by rw [dig_sub (show q ≤ 9 by omega)]) hS hh h hd hk hc

/-- A message at a replica. -/
theorem take_head (b me n f q c : Nat) (kd : UInt8) (p D : Pc) (x : Ext) (er : Int) (an : Bs) (p' : Pc) (x' : Ext) (w : World) (hkd : kd = 73 ∨ kd = 70) (hf : f < 3) (hq : q < 3) (hc : c < 100) (hn : n ≤ 3) (hme : me < n) (hx : x.small) (ht : Tab Tryz.prog w) (hD : D.fine) (iD : D.inb)
    (h : w.heap[b]? = some (.cells (repArr me n p x) 69))
    (hS : TakeSpec true (forMe me n f q) (checkE n p D) (decide (p.dots < (p.join D).dots)) D p x (headL 65 me f c) er an p' x') :
    Calls Tryz.prog 18 #[.pointer (some ⟨b, 0, none⟩), .string ⟨(headL kd f q c ++ D.text).toArray⟩] w fun e w' => e = .returned (.tuple #[.string ⟨an.toArray⟩, .int .i64 er]) ∧ RepTo b me n p' x' w w' := by
  have hd := head_ok hf hq hc
  have hnn := head_num hc
  obtain ⟨r1, r2⟩ := read_text hD iD
  have hl := text_len' D hD.ok
  generalize htx : D.text = tx at *
  have e : headL kd f q c ++ tx = kd :: dig f :: dig q :: dig (c / 10) :: dig (c % 10) :: tx := rfl
  rw [e]
  have e2 : headL 65 me f c = [65, dig me, dig f, dig (c / 10), dig (c % 10)] := rfl
  rw [e2] at hS
  clear e e2
  refine take_any b me n p x kd (dig f) (dig q) (dig (c / 10)) (dig (c % 10)) tx true er an p' x' w (by omega) hn hme hx ht h ?_ ?_
  · rw [hd, r1]
    rcases hkd with rfl | rfl <;> simp
  · rw [r2, hnn, dig_sub (by omega), dig_sub (by omega)]
    exact hS
end Go.Proofs.YtalaldfgjgpacaaGreatDoor

namespace Go.Proofs.YtalaldfgjgpacaaGreatDoor
set_option linter.unusedVariables false
set_option linter.unusedSimpArgs false
open Go.RowKit

/-- A cluster in memory, whatever stands in its row, and without what there was ahead of a call. -/
structure ClB (w : World) (m : CM) (s : CS) (R : Array Value) : Prop where
  n1 : 1 ≤ s.n
  n3 : s.n ≤ 3
  row : w.heap[m.cb]? = some (.cells R 38)
  oc : m.own m.cb
  xs : XsAt w m s.n s.p s.x
  ks : KsAt w m s.n s.K
  tk : TksAt w m.tb 3 m.ta s.toks
  ow : TksAt w m.ob s.n m.oa s.owns
  ot : m.own m.tb
  oo : m.own m.ob
  tno : m.tb ≠ m.ob
  ev : EvsAt w m.own s.n m.ev m.ef s.evs
  wi : WirAt w m.own s.n m.wv m.wf s.wire
  ak : AksAt w m.own m.av m.af s.acks
  wa : ∀ g, m.wv.ownBlock = some g → m.av.ownBlock ≠ some g
  tab : Tab Tryz.prog w
  tf : ∀ g, Tryz.prog.globalNamed "internal/strconv.uint64pow10" = some g → ¬ m.own g
  lim : ∀ k, m.own k → k < w.heap.size

theorem ClAt.b {w : World} {m : CM} {s : CS} (h : ClAt w m s) : ClB w m s (rowA m s) := ⟨h.n1, h.n3, h.row, h.oc, h.xs, h.ks, h.tk, h.ow, h.ot, h.oo, h.tno, h.ev, h.wi, h.ak, h.wa, h.tab, h.tf, h.lim⟩
theorem ClB.at {w : World} {m : CM} {s : CS} (h : ClB w m s (rowA m s)) (ho : 0 ≤ s.last → OldAt w m s.n s.old) : ClAt w m s := ⟨h.n1, h.n3, h.row, h.oc, h.xs, h.ks, h.tk, h.ow, h.ot, h.oo, h.tno, h.ev, h.wi, h.ak, h.wa, ho, h.tab, h.tf, h.lim⟩

section
variable {w w' : World} {m : CM} {s : CS} {R : Array Value}
theorem ClB.cell (h : ClB w m s R) (k : Nat) : w.cell? ⟨m.cb, k, none⟩ = R[k]? := blk_cell h.row k
theorem ClB.fz (h : ClB w m s R) (k : Nat) : w.frozen? ⟨m.cb, k, none⟩ = false := blk_frozen h.row k

theorem ClB.blw (h : ClB w m s R) (hb : Blw w w') : ClB w' m s R := by
  have hkp : Kp m.own w w' := hb.kp _
  have e : ∀ j, (∃ o, w.heap[j]? = some o) → w'.heap[j]? = w.heap[j]? := fun j ⟨o, ho⟩ => hb.bk j (lt_of_blk ho)
  have er : ∀ {t : TypeId} {sz : Nat} {v : Value} {n : Nat} {xs : List Value}, w.ownsRow 0 t sz v n xs → ∀ g, v.ownBlock = some g → w'.heap[g]? = w.heap[g]? := by
    intro t sz v n xs ho g hg
    obtain ⟨C, hC⟩ := ownsRow_blk ho hg
    exact e g ⟨_, hC⟩
  exact ⟨h.n1, h.n3, (e _ ⟨_, h.row⟩).trans h.row, h.oc, h.xs.on (e _ ⟨_, h.xs.xs⟩) (fun r hr => e _ ⟨_, h.xs.rep r hr⟩), h.ks.on (e _ ⟨_, h.ks.kn⟩) (fun r hr => e _ ⟨_, h.ks.kc r hr⟩),
    h.tk.on (e _ ⟨_, h.tk.tk⟩), h.ow.on (e _ ⟨_, h.ow.tk⟩), h.ot, h.oo, h.tno, h.ev.on hkp (er h.ev.o), h.wi.on hkp (er h.wi.o), h.ak.on (er h.ak.o), h.wa, h.tab.kp hkp h.tf, h.tf, fun k hk => Nat.lt_of_lt_of_le (h.lim k hk) hkp.size⟩

/-- What the picture does not hang on. -/
theorem ClB.flags (h : ClB w m s R) (said : Bs) (err last : Int) (lg st : Bs) (old : Vec) (nevs nwire nacks : Nat) (client : Int) (tok : Bs) : ClB w m { s with said := said, err := err, last := last, lg := lg, st := st, old := old, nevs := nevs, nwire := nwire, nacks := nacks, client := client, tok := tok } R :=
  ⟨h.n1, h.n3, h.row, h.oc, h.xs, h.ks, h.tk, h.ow, h.ot, h.oo, h.tno, h.ev, h.wi, h.ak, h.wa, h.tab, h.tf, h.lim⟩

/-- A cell of the row is written. -/
theorem ClB.set (h : ClB w m s R) (k : Nat) (v : Value) : ClB (w.setCell ⟨m.cb, k, none⟩ v) m s (R.setIfInBounds k v) := by
  have hb : Bx m.cb w (w.setCell ⟨m.cb, k, none⟩ v) := (Bx.rfl m.cb w).scs k [v]
  have hR := h.row
  have hkp : Kp m.own w _ := hb.kp h.oc
  have e := hb.oth
  exact ⟨h.n1, h.n3, heap_setCell_self hR v, h.oc, h.xs.on (e _ (ne_ty h.xs.xs hR (by decide)) ⟨_, h.xs.xs⟩) (fun q hq => e _ (ne_ty (h.xs.rep q hq) hR (by decide)) ⟨_, h.xs.rep q hq⟩),
    h.ks.on (e _ (ne_ty h.ks.kn hR (by decide)) ⟨_, h.ks.kn⟩) (fun q hq => e _ (ne_ty (h.ks.kc q hq) hR (by decide)) ⟨_, h.ks.kc q hq⟩),
    h.tk.on (e _ (ne_ty h.tk.tk hR (by decide)) ⟨_, h.tk.tk⟩), h.ow.on (e _ (ne_ty h.ow.tk hR (by decide)) ⟨_, h.ow.tk⟩), h.ot, h.oo, h.tno,
    h.ev.on hkp (hb.othRow h.ev.o (row_ne h.ev.o hR (by decide))), h.wi.on hkp (hb.othRow h.wi.o (row_ne h.wi.o hR (by decide))), h.ak.on (hb.othRow h.ak.o (row_ne h.ak.o hR (by decide))), h.wa, h.tab.kp hkp h.tf, h.tf, fun k hk => Nat.lt_of_lt_of_le (h.lim k hk) hkp.size⟩

/-- What a replica knows is what lies in another block from now on. -/
theorem ClB.setK (h : ClB w m s R) {r j : Nat} (hr : r < s.n) {V : Vec} (hj : w.heap[j]? = some (.cells (intsV (vecL s.n V)) 3)) (oj : m.own j) (hne : ∀ q, q < s.n → m.g q ≠ j) :
    ClB (w.setCell ⟨m.kb, r, none⟩ (.slice (some ⟨j, 0, none⟩) s.n s.n)) { m with ka := m.ka.setIfInBounds r (.slice (some ⟨j, 0, none⟩) s.n s.n), g := upd m.g r j } { s with K := upd s.K r V } R := by
  have hb : Bx m.kb w (w.setCell ⟨m.kb, r, none⟩ (.slice (some ⟨j, 0, none⟩) s.n s.n)) := (Bx.rfl m.kb w).scs r [_]
  have hR := h.ks.kn
  have hkp : Kp m.own w _ := hb.kp h.ks.ok
  have e := hb.oth
  refine ⟨h.n1, h.n3, (e _ (ne_ty h.row hR (by decide)) ⟨_, h.row⟩).trans h.row, h.oc, ⟨(e _ (ne_ty h.xs.xs hR (by decide)) ⟨_, h.xs.xs⟩).trans h.xs.xs, h.xs.xr, fun q hq => (e _ (ne_ty (h.xs.rep q hq) hR (by decide)) ⟨_, h.xs.rep q hq⟩).trans (h.xs.rep q hq), h.xs.bne, h.xs.ox, h.xs.ob⟩,
    ⟨heap_setCell_self hR _, ?_, ?_, ?_, h.ks.ok, ?_⟩,
    h.tk.on (e _ (ne_ty h.tk.tk hR (by decide)) ⟨_, h.tk.tk⟩), h.ow.on (e _ (ne_ty h.ow.tk hR (by decide)) ⟨_, h.ow.tk⟩), h.ot, h.oo, h.tno,
    h.ev.on hkp (hb.othRow h.ev.o (row_ne h.ev.o hR (by decide))), h.wi.on hkp (hb.othRow h.wi.o (row_ne h.wi.o hR (by decide))), h.ak.on (hb.othRow h.ak.o (row_ne h.ak.o hR (by decide))), h.wa, h.tab.kp hkp h.tf, h.tf, fun k hk => Nat.lt_of_lt_of_le (h.lim k hk) hkp.size⟩
  · intro q hq
    show (m.ka.setIfInBounds r (.slice (some ⟨j, 0, none⟩) s.n s.n))[q]? = some (.slice (some ⟨upd m.g r j q, 0, none⟩) s.n s.n)
    have hsz : r < m.ka.size := (Array.getElem?_eq_some_iff.1 (h.ks.kr r hr)).1
    rw [Array.getElem?_setIfInBounds]
    by_cases c : r = q
    · subst c; rw [if_pos rfl, if_pos hsz, upd_at]
    · rw [if_neg c, upd_ne _ _ (fun e => c e.symm)]; exact h.ks.kr q hq
  · intro q hq
    show (w.setCell _ _).heap[upd m.g r j q]? = some (.cells (intsV (vecL s.n (upd s.K r V q))) 3)
    by_cases c : q = r
    · subst c; rw [upd_at, upd_at, e _ (ne_ty hj hR (by decide)) ⟨_, hj⟩]; exact hj
    · rw [upd_ne _ _ c, upd_ne _ _ c, e _ (ne_ty (h.ks.kc q hq) hR (by decide)) ⟨_, h.ks.kc q hq⟩]; exact h.ks.kc q hq
  · intro q q' hq hq' hqq
    show upd m.g r j q ≠ upd m.g r j q'
    by_cases c : q = r
    · subst c
      rw [upd_at, upd_ne _ _ (Ne.symm hqq)]; exact Ne.symm (hne q' hq')
    · rw [upd_ne _ _ c]
      by_cases c' : q' = r
      · subst c'; rw [upd_at]; exact hne q hq
      · rw [upd_ne _ _ c']; exact h.ks.gne q q' hq hq' hqq
  · intro q hq
    show m.own (upd m.g r j q)
    by_cases c : q = r
    · subst c; rw [upd_at]; exact oj
    · rw [upd_ne _ _ c]; exact h.ks.og q hq

/-- A client's token. -/
theorem ClB.setT (h : ClB w m s R) {i : Nat} (hi : i < 3) (t : Bs) : ClB (w.setCell ⟨m.tb, i, none⟩ (.string ⟨t.toArray⟩)) { m with ta := m.ta.setIfInBounds i (.string ⟨t.toArray⟩) } { s with toks := upd s.toks i t } R := by
  have hb : Bx m.tb w (w.setCell ⟨m.tb, i, none⟩ (.string ⟨t.toArray⟩)) := (Bx.rfl m.tb w).scs i [_]
  have hR := h.tk.tk
  have hkp : Kp m.own w _ := hb.kp h.ot
  have e := hb.oth
  refine ⟨h.n1, h.n3, (e _ (ne_ty h.row hR (by decide)) ⟨_, h.row⟩).trans h.row, h.oc, ⟨(e _ (ne_ty h.xs.xs hR (by decide)) ⟨_, h.xs.xs⟩).trans h.xs.xs, h.xs.xr, fun q hq => (e _ (ne_ty (h.xs.rep q hq) hR (by decide)) ⟨_, h.xs.rep q hq⟩).trans (h.xs.rep q hq), h.xs.bne, h.xs.ox, h.xs.ob⟩,
    ⟨(e _ (ne_ty h.ks.kn hR (by decide)) ⟨_, h.ks.kn⟩).trans h.ks.kn, h.ks.kr, fun q hq => (e _ (ne_ty (h.ks.kc q hq) hR (by decide)) ⟨_, h.ks.kc q hq⟩).trans (h.ks.kc q hq), h.ks.gne, h.ks.ok, h.ks.og⟩,
    ⟨heap_setCell_self hR _, ?_⟩, h.ow.on (e _ (Ne.symm h.tno) ⟨_, h.ow.tk⟩), h.ot, h.oo, h.tno,
    h.ev.on hkp (hb.othRow h.ev.o (row_ne h.ev.o hR (by decide))), h.wi.on hkp (hb.othRow h.wi.o (row_ne h.wi.o hR (by decide))), h.ak.on (hb.othRow h.ak.o (row_ne h.ak.o hR (by decide))), h.wa, h.tab.kp hkp h.tf, h.tf, fun k hk => Nat.lt_of_lt_of_le (h.lim k hk) hkp.size⟩
  intro j hj
  show (m.ta.setIfInBounds i (.string ⟨t.toArray⟩))[j]? = some (.string ⟨(upd s.toks i t j).toArray⟩)
  have hsz : i < m.ta.size := (Array.getElem?_eq_some_iff.1 (h.tk.tr i hi)).1
  rw [Array.getElem?_setIfInBounds]
  by_cases c : i = j
  · subst c; rw [if_pos rfl, if_pos hsz, upd_at]
  · rw [if_neg c, upd_ne _ _ (fun h => c h.symm)]; exact h.tk.tr j hj

/-- A replica's own. -/
theorem ClB.setO (h : ClB w m s R) {i : Nat} (hi : i < s.n) (t : Bs) : ClB (w.setCell ⟨m.ob, i, none⟩ (.string ⟨t.toArray⟩)) { m with oa := m.oa.setIfInBounds i (.string ⟨t.toArray⟩) } { s with owns := upd s.owns i t } R := by
  have hb : Bx m.ob w (w.setCell ⟨m.ob, i, none⟩ (.string ⟨t.toArray⟩)) := (Bx.rfl m.ob w).scs i [_]
  have hR := h.ow.tk
  have hkp : Kp m.own w _ := hb.kp h.oo
  have e := hb.oth
  refine ⟨h.n1, h.n3, (e _ (ne_ty h.row hR (by decide)) ⟨_, h.row⟩).trans h.row, h.oc, ⟨(e _ (ne_ty h.xs.xs hR (by decide)) ⟨_, h.xs.xs⟩).trans h.xs.xs, h.xs.xr, fun q hq => (e _ (ne_ty (h.xs.rep q hq) hR (by decide)) ⟨_, h.xs.rep q hq⟩).trans (h.xs.rep q hq), h.xs.bne, h.xs.ox, h.xs.ob⟩,
    ⟨(e _ (ne_ty h.ks.kn hR (by decide)) ⟨_, h.ks.kn⟩).trans h.ks.kn, h.ks.kr, fun q hq => (e _ (ne_ty (h.ks.kc q hq) hR (by decide)) ⟨_, h.ks.kc q hq⟩).trans (h.ks.kc q hq), h.ks.gne, h.ks.ok, h.ks.og⟩,
    h.tk.on (e _ h.tno ⟨_, h.tk.tk⟩), ⟨heap_setCell_self hR _, ?_⟩, h.ot, h.oo, h.tno,
    h.ev.on hkp (hb.othRow h.ev.o (row_ne h.ev.o hR (by decide))), h.wi.on hkp (hb.othRow h.wi.o (row_ne h.wi.o hR (by decide))), h.ak.on (hb.othRow h.ak.o (row_ne h.ak.o hR (by decide))), h.wa, h.tab.kp hkp h.tf, h.tf, fun k hk => Nat.lt_of_lt_of_le (h.lim k hk) hkp.size⟩
  intro j hj
  show (m.oa.setIfInBounds i (.string ⟨t.toArray⟩))[j]? = some (.string ⟨(upd s.owns i t j).toArray⟩)
  have hsz : i < m.oa.size := (Array.getElem?_eq_some_iff.1 (h.ow.tr i hi)).1
  rw [Array.getElem?_setIfInBounds]
  by_cases c : i = j
  · subst c; rw [if_pos rfl, if_pos hsz, upd_at]
  · rw [if_neg c, upd_ne _ _ (fun h => c h.symm)]; exact h.ow.tr j hj

/-- Another replica in the place of one: it lies in a block that is new. -/
theorem ClB.setX (h : ClB w m s R) {r j W0 : Nat} (hr : r < s.n) {p : Pc} {x : Ext} (hj : w.heap[j]? = some (.cells (repArr r s.n p x) 69)) (hl : ∀ k, m.own k → k < W0) (hW : W0 ≤ j) :
    ClB (w.setCell ⟨m.xb, r, none⟩ (.pointer (some ⟨j, 0, none⟩))) { m with xa := m.xa.setIfInBounds r (.pointer (some ⟨j, 0, none⟩)), b := upd m.b r j, own := fun k => m.own k ∨ k = j } { s with p := upd s.p r p, x := upd s.x r x } R := by
  have hb : Bx m.xb w (w.setCell ⟨m.xb, r, none⟩ (.pointer (some ⟨j, 0, none⟩))) := (Bx.rfl m.xb w).scs r [_]
  have hR := h.xs.xs
  have hkp : Kp m.own w _ := hb.kp h.xs.ox
  have e := hb.oth
  have frz : ∀ {u : Value} {K : Vec}, FrzV m.own w s.n u K → FrzV (fun k => m.own k ∨ k = j) (w.setCell ⟨m.xb, r, none⟩ (.pointer (some ⟨j, 0, none⟩))) s.n u K := by
    rintro u K ⟨g, rfl, h2, h3⟩
    refine ⟨g, rfl, ?_, hkp.keep h3 h2⟩
    rintro (c | c)
    · exact h2 c
    · exact ne_ty h3 hj (by decide) c
  refine ⟨h.n1, h.n3, (e _ (ne_ty h.row hR (by decide)) ⟨_, h.row⟩).trans h.row, .inl h.oc, ⟨heap_setCell_self hR _, ?_, ?_, ?_, .inl h.xs.ox, ?_⟩,
    ⟨(e _ (ne_ty h.ks.kn hR (by decide)) ⟨_, h.ks.kn⟩).trans h.ks.kn, h.ks.kr, fun q hq => (e _ (ne_ty (h.ks.kc q hq) hR (by decide)) ⟨_, h.ks.kc q hq⟩).trans (h.ks.kc q hq), h.ks.gne, .inl h.ks.ok, fun q hq => .inl (h.ks.og q hq)⟩,
    h.tk.on (e _ (ne_ty h.tk.tk hR (by decide)) ⟨_, h.tk.tk⟩), h.ow.on (e _ (ne_ty h.ow.tk hR (by decide)) ⟨_, h.ow.tk⟩), .inl h.ot, .inl h.oo, h.tno,
    ⟨ownsRow_on h.ev.o (hb.othRow h.ev.o (row_ne h.ev.o hR (by decide))), ?_, fun g hg => .inl (h.ev.b g hg)⟩, ⟨ownsRow_on h.wi.o (hb.othRow h.wi.o (row_ne h.wi.o hR (by decide))), ?_, fun g hg => .inl (h.wi.b g hg)⟩,
    ⟨ownsRow_on h.ak.o (hb.othRow h.ak.o (row_ne h.ak.o hR (by decide))), h.ak.i, fun g hg => .inl (h.ak.b g hg)⟩, h.wa, h.tab.kp hkp h.tf, ?_, ?_⟩
  · intro q hq
    show (m.xa.setIfInBounds r (.pointer (some ⟨j, 0, none⟩)))[q]? = some (.pointer (some ⟨upd m.b r j q, 0, none⟩))
    have hsz : r < m.xa.size := (Array.getElem?_eq_some_iff.1 (h.xs.xr r hr)).1
    rw [Array.getElem?_setIfInBounds]
    by_cases c : r = q
    · subst c; rw [if_pos rfl, if_pos hsz, upd_at]
    · rw [if_neg c, upd_ne _ _ (fun e => c e.symm)]; exact h.xs.xr q hq
  · intro q hq
    show (w.setCell _ _).heap[upd m.b r j q]? = some (.cells (repArr q s.n (upd s.p r p q) (upd s.x r x q)) 69)
    by_cases c : q = r
    · subst c; rw [upd_at, upd_at, upd_at, e _ (ne_ty hj hR (by decide)) ⟨_, hj⟩]; exact hj
    · rw [upd_ne _ _ c, upd_ne _ _ c, upd_ne _ _ c, e _ (ne_ty (h.xs.rep q hq) hR (by decide)) ⟨_, h.xs.rep q hq⟩]; exact h.xs.rep q hq
  · intro q q' hq hq' hqq
    show upd m.b r j q ≠ upd m.b r j q'
    have hold : ∀ z, z < s.n → m.b z ≠ j := fun z hz c => by have := hl _ (h.xs.ob z hz); omega
    by_cases c : q = r
    · subst c
      rw [upd_at, upd_ne _ _ (Ne.symm hqq)]; exact Ne.symm (hold q' hq')
    · rw [upd_ne _ _ c]
      by_cases c' : q' = r
      · subst c'; rw [upd_at]; exact hold q hq
      · rw [upd_ne _ _ c']; exact h.xs.bne q q' hq hq' hqq
  · intro q hq
    show m.own (upd m.b r j q) ∨ upd m.b r j q = j
    by_cases c : q = r
    · subst c; rw [upd_at]; exact .inr rfl
    · rw [upd_ne _ _ c]; exact .inl (h.xs.ob q hq)
  · intro i e' he
    obtain ⟨u, a, b⟩ := h.ev.i i e' he
    exact ⟨u, a, frz b⟩
  · intro i e' he
    obtain ⟨u, a, b⟩ := h.wi.i i e' he
    exact ⟨u, a, frz b⟩
  · rintro g hg (c | c)
    · exact h.tf g hg c
    · exact h.tab.ne hj g hg c
  · rintro k (c | c)
    · exact Nat.lt_of_lt_of_le (h.lim k c) hkp.size
    · subst c
      exact Nat.lt_of_lt_of_le (lt_of_blk hj) hkp.size

/-- What was done is forgotten. -/
theorem ClB.cutE0 (h : ClB w m s R) {k g cap : Nat} (hk : k ≤ s.evs.length) (he : m.ev = .slice (some ⟨g, 0, none⟩) s.evs.length cap) : ClB w { m with ev := .slice (some ⟨g, 0, none⟩) k cap } { s with evs := s.evs.take k } R := by
  have ho := h.ev.o
  rw [he] at ho
  have hl : (s.evs.take k).length = k := by rw [List.length_take]; omega
  have hf : ∀ i, i < s.evs.length → (m.ef i).length = 7 := by
    intro i hi
    obtain ⟨u, a, _⟩ := h.ev.i i _ (List.getElem?_eq_getElem hi)
    rw [a]; rfl
  refine ⟨h.n1, h.n3, h.row, h.oc, ⟨h.xs.xs, h.xs.xr, h.xs.rep, h.xs.bne, h.xs.ox, h.xs.ob⟩, ⟨h.ks.kn, h.ks.kr, h.ks.kc, h.ks.gne, h.ks.ok, h.ks.og⟩, h.tk, h.ow, h.ot, h.oo, h.tno, ⟨?_, ?_, ?_⟩, h.wi, h.ak, h.wa, h.tab, h.tf, h.lim⟩
  · have := ownsRow_cut ho hk
    show w.ownsRow 0 _ 7 (.slice (some ⟨g, 0, none⟩) k cap) (s.evs.take k).length (flatC m.ef (s.evs.take k).length)
    rw [hl, ← flatC_take _ k hk hf]; exact this
  · intro i e hi
    have hi : (s.evs.take k)[i]? = some e := hi
    have hik : i < k := by have := (List.getElem?_eq_some_iff.1 hi).1; omega
    rw [List.getElem?_take, if_pos hik] at hi
    exact h.ev.i i e hi
  · intro j hj
    exact h.ev.b j (by rw [he]; exact hj)
theorem ClB.cutW0 (h : ClB w m s R) {k g cap : Nat} (hk : k ≤ s.wire.length) (he : m.wv = .slice (some ⟨g, 0, none⟩) s.wire.length cap) : ClB w { m with wv := .slice (some ⟨g, 0, none⟩) k cap } { s with wire := s.wire.take k } R := by
  have ho := h.wi.o
  rw [he] at ho
  have hl : (s.wire.take k).length = k := by rw [List.length_take]; omega
  have hf : ∀ i, i < s.wire.length → (m.wf i).length = 4 := by
    intro i hi
    obtain ⟨u, a, _⟩ := h.wi.i i _ (List.getElem?_eq_getElem hi)
    rw [a]; rfl
  refine ⟨h.n1, h.n3, h.row, h.oc, ⟨h.xs.xs, h.xs.xr, h.xs.rep, h.xs.bne, h.xs.ox, h.xs.ob⟩, ⟨h.ks.kn, h.ks.kr, h.ks.kc, h.ks.gne, h.ks.ok, h.ks.og⟩, h.tk, h.ow, h.ot, h.oo, h.tno, h.ev, ⟨?_, ?_, ?_⟩, h.ak, ?_, h.tab, h.tf, h.lim⟩
  · have := ownsRow_cut ho hk
    show w.ownsRow 0 _ 4 (.slice (some ⟨g, 0, none⟩) k cap) (s.wire.take k).length (flatC m.wf (s.wire.take k).length)
    rw [hl, ← flatC_take _ k hk hf]; exact this
  · intro i e hi
    have hi : (s.wire.take k)[i]? = some e := hi
    have hik : i < k := by have := (List.getElem?_eq_some_iff.1 hi).1; omega
    rw [List.getElem?_take, if_pos hik] at hi
    exact h.wi.i i e hi
  · intro j hj
    exact h.wi.b j (by rw [he]; exact hj)
  · intro j hj
    exact h.wa j (by rw [he]; exact hj)
theorem ClB.cutA0 (h : ClB w m s R) {k g cap : Nat} (hk : k ≤ s.acks.length) (he : m.av = .slice (some ⟨g, 0, none⟩) s.acks.length cap) : ClB w { m with av := .slice (some ⟨g, 0, none⟩) k cap } { s with acks := s.acks.take k } R := by
  have ho := h.ak.o
  rw [he] at ho
  have hl : (s.acks.take k).length = k := by rw [List.length_take]; omega
  have hf : ∀ i, i < s.acks.length → (m.af i).length = 4 := by
    intro i hi
    rw [h.ak.i i _ (List.getElem?_eq_getElem hi)]; rfl
  refine ⟨h.n1, h.n3, h.row, h.oc, ⟨h.xs.xs, h.xs.xr, h.xs.rep, h.xs.bne, h.xs.ox, h.xs.ob⟩, ⟨h.ks.kn, h.ks.kr, h.ks.kc, h.ks.gne, h.ks.ok, h.ks.og⟩, h.tk, h.ow, h.ot, h.oo, h.tno, h.ev, h.wi, ⟨?_, ?_, ?_⟩, ?_, h.tab, h.tf, h.lim⟩
  · have := ownsRow_cut ho hk
    show w.ownsRow 0 _ 4 (.slice (some ⟨g, 0, none⟩) k cap) (s.acks.take k).length (flatC m.af (s.acks.take k).length)
    rw [hl, ← flatC_take _ k hk hf]; exact this
  · intro i e hi
    have hi : (s.acks.take k)[i]? = some e := hi
    have hik : i < k := by have := (List.getElem?_eq_some_iff.1 hi).1; omega
    rw [List.getElem?_take, if_pos hik] at hi
    exact h.ak.i i e hi
  · intro j hj
    exact h.ak.b j (by rw [he]; exact hj)
  · intro j hj hj2
    exact h.wa j hj (by rw [he]; exact hj2)
theorem ClB.cutE (h : ClB w m s R) {k : Nat} {ea : Option Addr} {ec : Nat} (hk : k ≤ s.evs.length) (he : m.ev = .slice ea s.evs.length ec) : ClB w { m with ev := .slice ea k ec } { s with evs := s.evs.take k } R := by
  rcases h.ev.o.2 with ⟨e, e0⟩ | ⟨g, cap, cur, e, _⟩
  · have hk0 : k = 0 := by omega
    have e1 : Value.slice ea k ec = m.ev := by
      rw [he, hk0, e0]
    rw [e1]
    have e2 : s.evs.take k = s.evs := List.take_of_length_le (by omega)
    rw [e2]; exact h
  · rw [e] at he
    injection he with a1 a2 a3
    subst a1; subst a3
    exact h.cutE0 hk e
theorem ClB.cutW (h : ClB w m s R) {k : Nat} {ea : Option Addr} {ec : Nat} (hk : k ≤ s.wire.length) (he : m.wv = .slice ea s.wire.length ec) : ClB w { m with wv := .slice ea k ec } { s with wire := s.wire.take k } R := by
  rcases h.wi.o.2 with ⟨e, e0⟩ | ⟨g, cap, cur, e, _⟩
  · have hk0 : k = 0 := by omega
    have e1 : Value.slice ea k ec = m.wv := by
      rw [he, hk0, e0]
    rw [e1]
    have e2 : s.wire.take k = s.wire := List.take_of_length_le (by omega)
    rw [e2]; exact h
  · rw [e] at he
    injection he with a1 a2 a3
    subst a1; subst a3
    exact h.cutW0 hk e
theorem ClB.cutA (h : ClB w m s R) {k : Nat} {ea : Option Addr} {ec : Nat} (hk : k ≤ s.acks.length) (he : m.av = .slice ea s.acks.length ec) : ClB w { m with av := .slice ea k ec } { s with acks := s.acks.take k } R := by
  rcases h.ak.o.2 with ⟨e, e0⟩ | ⟨g, cap, cur, e, _⟩
  · have hk0 : k = 0 := by omega
    have e1 : Value.slice ea k ec = m.av := by
      rw [he, hk0, e0]
    rw [e1]
    have e2 : s.acks.take k = s.acks := List.take_of_length_le (by omega)
    rw [e2]; exact h
  · rw [e] at he
    injection he with a1 a2 a3
    subst a1; subst a3
    exact h.cutA0 hk e
end
theorem own_cap {w : World} {base sz n : Nat} {t : TypeId} {v : Value} {xs : List Value} (h : w.ownsRow base t sz v n xs) {a : Option Addr} {l c : Nat} (hv : v = .slice a l c) : n ≤ c := by
  rcases h.2 with ⟨e, e0⟩ | ⟨g, cap, cur, e, _, _, h3, _⟩
  · omega
  · rw [e] at hv
    injection hv with _ _ a3
    omega
theorem sliced_zero (a : Option Addr) (k c sz : Nat) : sliced a 0 k c sz = .slice a k c := by
  unfold sliced
  cases a <;> simp [Addr.add]
end Go.Proofs.YtalaldfgjgpacaaGreatDoor

namespace Go.Proofs.YtalaldfgjgpacaaGreatDoor
set_option linter.unusedVariables false
set_option linter.unusedSimpArgs false
open Go.RowKit
attribute [local go_sem ↓] Go.wp_at_zero Go.wp_at_succ

/-- A letter as it is handed over. -/
def mailA (l : Bs) (f q : Nat) (u : Value) : Array Value := #[.string ⟨l.toArray⟩, .int .i64 f, .int .i64 q, u]

set_option maxRecDepth 100000 in
set_option maxHeartbeats 4000000 in
theorem acked_go {w : World} {m : CM} {t : CS} {r f q c : Nat} {u : Value} (h : ClAt w m t) (hr : r < t.n) (hf : f < t.n) (hq : q < t.n) (hc : c < 100) (hok : (t.p r).ok) (hh : (t.x r).had < 100) (hk : (t.x r).ack f < 1000) (hlg : t.lg = (t.x r).log) (hst : t.st = stL (t.p r) t.n)
    (er : Int) (x' : Ext) (hx : x'.log = (t.x r).log) (hS : AckSpec true (forMe r t.n f q) f c (t.x r) er x') (hcs : (q ≠ r ∧ er = 6) ∨ (q = r ∧ er = 0)) :
    Calls Tryz.prog 67 #[.pointer (some ⟨m.cb, 0, none⟩), .int .i64 r, .agg (mailA (headL 65 f q c) f q u)] w fun e w' => e = .returned (.bool true) ∧ ∃ m', Moved w w' m m' { t with err := er, x := upd t.x r x' } := by
  have hn3 := h.n3
  obtain ⟨F, hF⟩ : ∃ F : World → Prop, F = fun w' => ∃ m', Moved w w' m m' { t with err := er, x := upd t.x r x' } := ⟨_, rfl⟩
  rw [show (fun e w' => e = Ending.returned (.bool true) ∧ ∃ m', Moved w w' m m' { t with err := er, x := upd t.x r x' }) = fun e w' => e = Ending.returned (.bool true) ∧ F w' by rw [hF]]
  have HF := hid hF
  obtain ⟨y, hy⟩ : ∃ y : ByteArray, y = ⟨(headL 65 f q c).toArray⟩ := ⟨_, rfl⟩
  obtain ⟨W0, hW0⟩ : ∃ W0, W0 = w.alloc (.cells #[.string y, .int .i64 f, .int .i64 q, u] 104) := ⟨_, rfl⟩
  have B0 : Blw w W0 := by rw [hW0]; exact (Blw.rfl w).al _
  have h0 := h.blw B0
  have hm0 : W0.heap[w.heap.size]? = some (.cells #[.string y, .int .i64 f, .int .i64 q, u] 104) := by rw [hW0]; exact hp_new w _
  have f0 : W0.cell? ⟨w.heap.size, 0, none⟩ = some (.string y) := by rw [blk_cell hm0]; rfl
  have u2 : W0.cell? ⟨m.cb, 2, none⟩ = some (.slice (some ⟨m.xb, 0, none⟩) t.n m.cx) := by rw [h0.cell]; rfl
  have ux := h0.x0 hr
  have HAK := hid (acked_head (m.b r) r t.n f q c (t.p r) (t.x r) er x' W0 (by omega) (by omega) hc hh hk hS (h0.xs.rep r hr))
  rw [← hy] at HAK
  have HY := hid hy
  have H0 := hid (And.intro h0 (And.intro B0 hm0))
  have HW0 := hid hW0
  have HLS := hid (And.intro hlg (And.intro hst (And.intro hx hok)))
  have hbs : m.b r ≠ w.heap.size := Nat.ne_of_lt (lt_of_blk (h.xs.rep r hr))
  have hcs' : m.cb ≠ w.heap.size := Nat.ne_of_lt h.lt
  rw [hW0] at f0 u2 ux
  clear hF hy hW0 B0 h0 hm0 hlg hst hx hok hS hh hk h
  rw [show mailA (headL 65 f q c) f q u = #[.string y, .int .i64 f, .int .i64 q, u] by rw [HY.out]; rfl]
  go_enter Tryz.func67, Tryz.ntmps67
  go_wp2_with fail
  rw [← HW0.out]
  refine HAK.out.mono ?_
  rintro e w1 ⟨rfl, rep1, bx1⟩
  have c1 := H0.out.1.rep_to hr bx1 rep1
  change ClAt w1 m { t with p := upd t.p r (t.p r), x := upd t.x r x' } at c1
  rw [upd_self] at c1
  have hm1 := bx1.keep H0.out.2.2 (Ne.symm hbs)
  have v10 : w1.cell? ⟨m.cb, 10, none⟩ = some (.int .i64 t.err) := by rw [c1.cell]; rfl
  have vf := c1.fz
  obtain ⟨c2, b2⟩ := err_cl c1 er
  obtain ⟨W2, hW2⟩ : ∃ W2, W2 = w1.setCell ⟨m.cb, 10, none⟩ (.int .i64 er) := ⟨_, rfl⟩
  rw [← hW2] at c2 b2
  have hm2 := b2.keep hm1 (Ne.symm hcs')
  have HST := hid (still_cl c2 hr HLS.out.2.2.2)
  have C2 := hid (And.intro c2 (And.intro (((H0.out.2.1.kp m.own).tr (bx1.kp (H0.out.1.xs.ob r hr))).tr (b2.kp c1.oc)) hm2))
  have HW2 := hid hW2
  clear c1 c2 b2 bx1 rep1 hW2 hm1 hm2 u2 ux f0
  go_wp2_with fail
  rw [← HW2.out]
  refine HST.out.mono ?_
  rintro e w3 ⟨he, b3⟩
  have he2 : e = .returned (.bool true) := by
    rw [he]
    show Ending.returned (.bool (((upd t.x r x' r).log == t.lg) && (stL (t.p r) t.n == t.st))) = _
    rw [upd_at, HLS.out.2.2.1, HLS.out.1, HLS.out.2.1]
    simp
  clear he
  subst he2
  have g2 : w3.cell? ⟨w.heap.size, 2, none⟩ = some (.int .i64 q) := by rw [blk_cell (b3.bk' C2.out.2.2)]; rfl
  have FIN : Hid (F w3) := by
    show F _
    rw [HF.out]
    exact ⟨m, C2.out.1.blw b3, C2.out.2.1.tr (b3.kp _), fun k hk => .inl hk, rfl, fun k hk => hk⟩
  clear b3 v10 vf
  rcases hcs with ⟨hqr, rfl⟩ | ⟨rfl, rfl⟩
  · have hb : ((q : Int) == (r : Int)) = false := by simp; omega
    go_wp2
    go_ret
    exact ⟨rfl, FIN.out⟩
  · go_wp2
    go_ret
    exact ⟨rfl, FIN.out⟩

/-- An answer that was sent comes to a replica. -/
theorem acked_cl {w : World} {m : CM} {s : CS} (hI : Inv s) {r : Nat} (hr : r < s.n) (h : ClAt w m (s.ahead r)) {e : Mail} (he : e ∈ s.acks) (u : Value) :
    Calls Tryz.prog 67 #[.pointer (some ⟨m.cb, 0, none⟩), .int .i64 r, .agg (mailA e.text e.frm e.dst u)] w fun z w' => z = .returned (.bool true) ∧ ∃ m', Moved w w' m m' ((s.ahead r).acked r e) := by
  obtain ⟨E, V, hC⟩ := hI.core
  have hi := hC.rep r hr
  have hfit := hi.ok.fits hi.short
  have ha := hC.acks e he
  obtain ⟨hf, hq, hne, cnt, htx, hcn, hv⟩ := ha
  have hi2 := hC.rep _ hq
  have hfit2 := hi2.ok.fits hi2.short
  have hc : cnt < 100 := by omega
  have hk : (s.x r).ack e.frm < 1000 := by have := hi.ackle e.frm; omega
  rw [htx]
  by_cases hd : e.dst = r
  · have hfm : forMe r s.n e.frm e.dst = true := by simp [forMe, hd, hf]; omega
    have hcn' : cnt ≤ (s.x r).had := by rw [← hd]; exact hcn
    by_cases hlt : (s.x r).ack e.frm < cnt
    · refine (acked_go (x' := (s.x r).setAck e.frm cnt) (er := 0) h hr hf hq hc hi.ok.fine.ok hfit.2.1 hk rfl rfl rfl ⟨(fun e => by cases e), (fun _ e => by rw [show forMe r (s.ahead r).n _ _ = true from hfm] at e; cases e), (fun _ _ e => absurd e (by show ¬ (s.x r).had < cnt; omega)), (fun _ _ _ e => absurd e (by show ¬ cnt ≤ (s.x r).ack _; omega)), fun _ _ _ _ => ⟨rfl, rfl⟩⟩ (.inr ⟨hd, rfl⟩)).mono ?_
      rintro z w' ⟨rfl, m', M⟩
      refine ⟨rfl, m', ?_⟩
      have e1 : (s.ahead r).acked r e = { s.ahead r with err := 0, x := upd s.x r ((s.x r).setAck e.frm cnt) } := by
        have hcn2 : ansN e.text = cnt := by
          rw [htx]
          have := ansN_head 65 e.frm e.dst cnt [] hc
          simpa using this
        unfold CS.acked
        rw [if_pos hd, hcn2, if_pos (show ((s.ahead r).x r).ack e.frm < cnt from hlt)]
        rfl
      rw [e1]; exact M
    · refine (acked_go (x' := s.x r) (er := 0) h hr hf hq hc hi.ok.fine.ok hfit.2.1 hk rfl rfl rfl ⟨(fun e => by cases e), (fun _ e => by rw [show forMe r (s.ahead r).n _ _ = true from hfm] at e; cases e), (fun _ _ e => absurd e (by show ¬ (s.x r).had < cnt; omega)), fun _ _ _ _ => ⟨rfl, rfl⟩, (fun _ _ _ e => absurd e hlt)⟩ (.inr ⟨hd, rfl⟩)).mono ?_
      rintro z w' ⟨rfl, m', M⟩
      refine ⟨rfl, m', ?_⟩
      have e1 : (s.ahead r).acked r e = { s.ahead r with err := 0 } := by
        have hcn2 : ansN e.text = cnt := by
          rw [htx]
          have := ansN_head 65 e.frm e.dst cnt [] hc
          simpa using this
        unfold CS.acked
        rw [if_pos hd, hcn2, if_neg (show ¬ ((s.ahead r).x r).ack e.frm < cnt from hlt)]
      rw [e1]
      have e2 : upd (s.ahead r).x r (s.x r) = (s.ahead r).x := upd_self s.x r
      rw [e2] at M
      exact M
  · have hfm : forMe r s.n e.frm e.dst = false := by simp [forMe, hd]
    refine (acked_go (x' := s.x r) (er := 6) h hr hf hq hc hi.ok.fine.ok hfit.2.1 hk rfl rfl rfl ⟨(fun e => by cases e), fun _ _ => ⟨rfl, rfl⟩, (fun _ e => by rw [show forMe r (s.ahead r).n _ _ = false from hfm] at e; cases e), (fun _ e => by rw [show forMe r (s.ahead r).n _ _ = false from hfm] at e; cases e), (fun _ e => by rw [show forMe r (s.ahead r).n _ _ = false from hfm] at e; cases e)⟩ (.inl ⟨hd, rfl⟩)).mono ?_
    rintro z w' ⟨rfl, m', M⟩
    refine ⟨rfl, m', ?_⟩
    have e1 : (s.ahead r).acked r e = { s.ahead r with err := 6 } := by
      unfold CS.acked
      rw [if_neg hd]
    rw [e1]
    have e2 : upd (s.ahead r).x r (s.x r) = (s.ahead r).x := upd_self s.x r
    rw [e2] at M
    exact M
end Go.Proofs.YtalaldfgjgpacaaGreatDoor
