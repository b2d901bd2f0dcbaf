import Derived.Test.YtalaldfgjgpacaaGreatDoorP0
import Derived.Test.YtalaldfgjgpacaaGreatDoorQF
import Derived.Deep.RegionWith
import Derived.Deep.RegionHeld3
namespace Go.Proofs.YtalaldfgjgpacaaGreatDoor
set_option linter.unusedVariables false
set_option linter.unusedSimpArgs false
open Go.RowKit
attribute [local go_sem ↓] Go.wp_at_zero Go.wp_at_succ

/-- A pair: where it lies, and what it holds. -/
structure PD where
  pb : Nat
  b : Nat
  cb : Nat
  me : Nat
  n : Nat
  p : Pc
  x : Ext
  lt : Value

structure PairAt (base B : Nat) (w : World) (d : PD) : Prop where
  pb : w.heap[d.pb]? = some (.cells #[.pointer (some ⟨d.b, 0, none⟩), .pointer (some ⟨d.cb, 0, none⟩)] 52)
  b : w.heap[d.b]? = some (.cells (repArr d.me d.n d.p d.x) 69)
  cb : RefAt w d.cb d.me d.n d.p d.x d.lt
  me : d.me < d.n
  n : d.n ≤ 3
  fine : d.p.fine
  hole : d.p.noHole
  had : d.x.had ≤ B + 100
  log : d.x.log.length ≤ (B + 10) * 1000
  l1 : base ≤ d.b
  l2 : base ≤ d.cb - 1
  l3 : ∀ g, d.lt.ownBlock = some g → base ≤ g
  l4 : base ≤ d.pb
  sz : Fit d.p d.x

def PD.own (d : PD) (k : Nat) : Prop := k = d.b ∨ k = d.cb ∨ d.lt.ownBlock = some k ∨ k = d.cb - 1

structure PStep (base B : Nat) (d : PD) (w w' : World) : Prop where
  h : ∃ d', PairAt base B w' d' ∧ d'.pb = d.pb ∧ d'.b = d.b ∧ d'.cb = d.cb ∧ (d'.lt.ownBlock = d.lt.ownBlock ∨ ∃ g, d'.lt.ownBlock = some g ∧ w.heap.size ≤ g)
  bs : Bs2 d.own w w'

theorem ty_ne {w : World} {a b : Nat} {C C' : Array Value} {t t' : TypeId} (h : w.heap[a]? = some (.cells C t)) (h' : w.heap[b]? = some (.cells C' t')) (ht : t ≠ t') : a ≠ b := by
  rintro rfl
  rw [h] at h'
  simp only [Option.some.injEq, Obj.cells.injEq] at h'
  exact ht h'.2.1

theorem RefAt.blk {w : World} {cb me n : Nat} {p : Pc} {x : Ext} {lt : Value} (h : RefAt w cb me n p x lt) : ∃ C, w.heap[cb]? = some (.cells C 123) := by
  obtain ⟨a, b, ac, D, E, ln, ls, h1, _⟩ := h.h
  exact ⟨_, h1⟩
theorem RefAt.lateBlk {w : World} {cb me n : Nat} {p : Pc} {x : Ext} {lt : Value} (h : RefAt w cb me n p x lt) {g : Nat} (hg : lt.ownBlock = some g) : g < w.heap.size ∧ ∃ C, w.heap[g]? = some (.cells C 120) := by
  obtain ⟨a, b, ac, D, E, ln, ls, h1, h2, h3, h4, _⟩ := h.h
  exact h4.lt hg

theorem RefAt.ackBlk {w : World} {cb me n : Nat} {p : Pc} {x : Ext} {lt : Value} (h : RefAt w cb me n p x lt) : w.heap[cb - 1]? = some (.cells (acksA n x.ack) 3) := by
  obtain ⟨a, b, ac, D, E, ln, ls, h1, h2, h3, h4, h5, _⟩ := h.h
  exact h5.ack
theorem RefAt.pos {w : World} {cb me n : Nat} {p : Pc} {x : Ext} {lt : Value} (h : RefAt w cb me n p x lt) : 1 ≤ cb := by
  obtain ⟨a, b, ac, D, E, ln, ls, h1, h2, h3, h4, h5, _⟩ := h.h
  exact h5.pos

/-- The document's replica does not hang on blocks of other kinds. -/
theorem RefAt.b2 {S : Nat → Prop} {w w' : World} {cb me n : Nat} {p : Pc} {x : Ext} {lt : Value} (h : RefAt w cb me n p x lt) (hb : Bs2 S w w') (hs : ∀ k C, S k → w.heap[k]? ≠ some (.cells C 9)) (hcb : ¬ S cb) (hlt : ∀ g, lt.ownBlock = some g → ¬ S g) (hac : ¬ S (cb - 1)) : RefAt w' cb me n p x lt := by
  obtain ⟨a, b, ac, D, E, ln, ls, h1, h2, h3, h4, h5, h6⟩ := h.h
  exact ⟨a, b, ac, D, E, ln, ls, (hb.block cb (lt_of_blk h1) hcb).trans h1, h2.kept fun g C _ hC => hb.block g (lt_of_blk hC) (fun hg => hs g C hg hC), h3.kept fun g C _ hC => hb.block g (lt_of_blk hC) (fun hg => hs g C hg hC),
    h4.kept fun g hg => hb.block g (h4.lt hg).1 (hlt g hg), h5.kept (fun g C hC => hb.block g (lt_of_blk hC) (fun hg => hs g C hg hC)) (hb.block _ (lt_of_blk h5.ack) hac), h6⟩

theorem Bx.b2 {b : Nat} {a w : World} (h : Bx b a w) : Bs2 (fun k => k = b) a w := ⟨h.os, h.tape, h.output, h.size, fun k hk hs => h.block k hk hs⟩

/-- Both calls, one behind the other. -/
theorem pstep_of {base B : Nat} {d : PD} {w w1 w2 w3 : World} {fP fR : FuncId} {args : Array Value} {tk : Bs} {er : Int} {p' : Pc} {x' : Ext} (h : PairAt base B w d) (hb : base ≤ w.heap.size) (k : Both d.b d.cb d.me d.n d.p d.x d.lt fP fR args tk er p' x')
    (h1 : Blw w w1) (h2 : RepTo d.b d.me d.n p' x' w1 w2) (h3 : RefStep d.cb d.me d.n p' x' d.lt w2 w3) : PStep base (B + 1) d w w3 := by
  obtain ⟨lt', i1, i2⟩ := h3.h
  obtain ⟨Cc, hcc⟩ := h.cb.blk
  have nb : d.b ≠ d.cb := ty_ne h.b hcc (by decide)
  have npb : d.pb ≠ d.b := ty_ne h.pb h.b (by decide)
  have npc : d.pb ≠ d.cb := ty_ne h.pb hcc (by decide)
  have nlb : d.lt.ownBlock ≠ some d.b := fun e => by obtain ⟨_, C, hC⟩ := h.cb.lateBlk e; exact ty_ne hC h.b (by decide) rfl
  have nlp : d.lt.ownBlock ≠ some d.pb := fun e => by obtain ⟨_, C, hC⟩ := h.cb.lateBlk e; exact ty_ne hC h.pb (by decide) rfl
  have s1 := h1.sz
  have s2 := h2.2.size
  have hbw1 : d.b < w1.heap.size := Nat.lt_of_lt_of_le (lt_of_blk h.b) s1
  refine ⟨⟨⟨d.pb, d.b, d.cb, d.me, d.n, p', x', lt'⟩, ⟨?_, ?_, i1, h.me, h.n, k.fine, k.hole, ?_, ?_, h.l1, h.l2, ?_, h.l4, k.sz h.sz⟩, rfl, rfl, rfl, ?_⟩, ?_⟩
  · have e1 := h1.bk' h.pb
    have e2 := (h2.2.block d.pb (lt_of_blk e1) npb).trans e1
    exact (h3.bs.block d.pb (lt_of_blk e2) (fun e => e.elim npc nlp)).trans e2
  · exact (h3.bs.block d.b (lt_of_blk h2.1) (fun e => e.elim nb nlb)).trans h2.1
  · have := k.had; have := h.had; show x'.had ≤ B + 1 + 100; omega
  · have := k.log; have := h.log; show x'.log.length ≤ (B + 1 + 10) * 1000; omega
  · intro g hg
    rcases i2 with e | ⟨g', e, hg'⟩
    · exact h.l3 g (by rw [← e]; exact hg)
    · have : g' = g := by have := e.symm.trans hg; simpa using this
      omega
  · rcases i2 with e | ⟨g', e, hg'⟩
    · exact .inl e
    · exact .inr ⟨g', e, by omega⟩
  · refine (h1.b2 _).tr (Bs2.weak (Bs2.tr (h2.2.b2.weak (T := fun i => i = d.b ∨ i = d.cb ∨ d.lt.ownBlock = some i) (fun i hi => .inl hi)) (h3.bs.weak (fun i hi => .inl (.inr hi)))) (fun i hi => .inl (hi.imp id (fun e => e.imp id .inl))))

set_option maxHeartbeats 400000 in
theorem num_any (e : Int) (w : World) : Calls Tryz.prog 38 #[.int .i64 e] w fun r w' => r = .returned (.int .i64 e) ∧ w' = w := by
  go_enter Tryz.func38, Tryz.ntmps38
  go_wp2
  go_ret
  exact ⟨rfl, rfl⟩

def opArr (kd r t a b c : Int) (s : ByteArray) : Array Value := #[.int .i64 kd, .int .i64 r, .int .i64 t, .int .i64 a, .int .i64 b, .int .i64 c, .string s]

theorem ref_on_rep {w w' : World} {base B : Nat} {d : PD} (h : PairAt base B w d) {w1 : World} (h1 : Blw w w1) {q : Pc} {y : Ext} (h2 : RepTo d.b d.me d.n q y w1 w') : RefAt w' d.cb d.me d.n d.p d.x d.lt := by
  have e := h.cb.on h1
  have hb := h1.bk' h.b
  obtain ⟨C, hC⟩ := e.blk
  refine e.b2 h2.2.b2 ?_ ?_ ?_ (fun e' => ty_ne hb e.ackBlk (by decide) e'.symm)
  · rintro k C' rfl hk; exact ty_ne hb hk (by decide) rfl
  · intro e'; exact ty_ne hb hC (by decide) e'.symm
  · rintro g hg rfl
    obtain ⟨_, C', hC'⟩ := e.lateBlk hg
    exact ty_ne hb hC' (by decide) rfl

/-- The pair's and the step's cells. -/
def Sees (pb b cb ws : Nat) (kd r t a bb c : Int) (s : ByteArray) (w' : World) : Prop := w'.cell? ⟨pb, 0, none⟩ = some (.pointer (some ⟨b, 0, none⟩)) ∧ w'.cell? ⟨pb, 1, none⟩ = some (.pointer (some ⟨cb, 0, none⟩)) ∧
  w'.cell? ⟨ws, 3, none⟩ = some (.int .i64 a) ∧ w'.cell? ⟨ws, 4, none⟩ = some (.int .i64 bb) ∧ w'.cell? ⟨ws, 5, none⟩ = some (.int .i64 c) ∧ w'.cell? ⟨ws, 6, none⟩ = some (.string s)
theorem Sees.of {w' : World} {pb b cb ws : Nat} {kd r t a bb c : Int} {s : ByteArray} (h1 : w'.heap[pb]? = some (.cells #[.pointer (some ⟨b, 0, none⟩), .pointer (some ⟨cb, 0, none⟩)] 52)) (h2 : w'.heap[ws]? = some (.cells (opArr kd r t a bb c s) 46)) : Sees pb b cb ws kd r t a bb c s w' :=
  ⟨blk_cell h1 0, blk_cell h1 1, blk_cell h2 3, blk_cell h2 4, blk_cell h2 5, blk_cell h2 6⟩

/-- The pair's block and the step's, behind the program's call. -/
theorem seen_rep {base B : Nat} {d : PD} {w w1 w2 : World} {ob : Obj} (h : PairAt base B w d) (hw : w1.heap[w.heap.size]? = some ob) (h1 : Blw w w1) {q : Pc} {y : Ext} (h2 : RepTo d.b d.me d.n q y w1 w2) : w2.heap[d.pb]? = some (.cells #[.pointer (some ⟨d.b, 0, none⟩), .pointer (some ⟨d.cb, 0, none⟩)] 52) ∧ w2.heap[w.heap.size]? = some ob := by
  have e := h1.bk' h.pb
  have l := lt_of_blk h.b
  exact ⟨(h2.2.block d.pb (lt_of_blk e) (ty_ne h.pb h.b (by decide))).trans e, (h2.2.block _ (lt_of_blk hw) (by omega)).trans hw⟩

theorem Sees.ref {base B : Nat} {d : PD} {w wc w2 w4 : World} {kd r t a bb c : Int} {s : ByteArray} (h : PairAt base B w d) (h1 : wc.heap[d.pb]? = some (.cells #[.pointer (some ⟨d.b, 0, none⟩), .pointer (some ⟨d.cb, 0, none⟩)] 52)) (h2 : wc.heap[w.heap.size]? = some (.cells (opArr kd r t a bb c s) 46))
    (hb : Blw wc w2) {q : Pc} {y : Ext} (k : RefStep d.cb d.me d.n q y d.lt w2 w4) : Sees d.pb d.b d.cb w.heap.size kd r t a bb c s w4 := by
  have e1 := hb.bk' h1
  have e2 := hb.bk' h2
  obtain ⟨C, hC⟩ := h.cb.blk
  have l2 := lt_of_blk hC
  have nl : d.lt.ownBlock ≠ some d.pb := fun e => by obtain ⟨_, C, hC⟩ := h.cb.lateBlk e; exact ty_ne hC h.pb (by decide) rfl
  have nl2 : d.lt.ownBlock ≠ some w.heap.size := fun e => by have := (h.cb.lateBlk e).1; omega
  exact Sees.of ((k.bs.block d.pb (lt_of_blk e1) (fun e => e.elim (ty_ne h.pb hC (by decide)) nl)).trans e1) ((k.bs.block _ (lt_of_blk e2) (fun e => e.elim (fun e => by omega) nl2)).trans e2)

set_option maxRecDepth 100000 in
set_option maxHeartbeats 4000000 in
theorem client3 (base B : Nat) (d : PD) (r t a bb c : Int) (s : ByteArray) (w : World) (h : PairAt base B w d) (hbs : base ≤ w.heap.size) (hB : B ≤ 100000000) (hs : s.size ≤ maxLen) (ht : Tab Tryz.prog w) :
    Calls Tryz.prog 22 #[.pointer (some ⟨d.pb, 0, none⟩), .agg (opArr 3 r t a bb c s)] w fun e w' => e = .returned (.bool true) ∧ PStep base (B + 1) d w w' := by
  have hsm : d.x.small := ⟨by have := h.had; omega, by have := h.log; omega⟩
  obtain ⟨tk, er, p', x', K⟩ := add_both d.b d.cb d.me d.n d.p d.x d.lt s a bb c h.n h.me hs h.fine h.hole hsm
  have H := hid h
  have KK := hid K
  have TB := hid ht
  have BX : Hid (Blw w (w.alloc (.cells (opArr 3 r t a bb c s) 46))) := (Blw.rfl _).al _
  have HW := hid (hp_new w (.cells (opArr 3 r t a bb c s) 46))
  have S0 := hid (Sees.of (BX.out.bk' h.pb) HW.out)
  have tkl := K.tkl
  clear h K ht hs hsm
  unfold opArr at *
  go_enter Tryz.func22, Tryz.ntmps22
  go_wp2_with fail
  go_cut [5, 6] (fun s1 s2 w' => s1 = .string ⟨tk.toArray⟩ ∧ s2 = .int .i64 er ∧ w'.heap[w.heap.size]? = some (.cells #[.int .i64 3, .int .i64 r, .int .i64 t, .int .i64 a, .int .i64 bb, .int .i64 c, .string s] 46) ∧ w'.heap[d.pb]? = some (.cells #[.pointer (some ⟨d.b, 0, none⟩), .pointer (some ⟨d.cb, 0, none⟩)] 52) ∧ ∃ w1, Blw w w1 ∧ RepTo d.b d.me d.n p' x' w1 w')
  case first =>
    go_region_held3 (fun w' => w'.cell? ⟨d.pb, 0, none⟩ = some (.pointer (some ⟨d.b, 0, none⟩)) ∧ w'.cell? ⟨d.pb, 1, none⟩ = some (.pointer (some ⟨d.cb, 0, none⟩)) ∧ w'.cell? ⟨w.heap.size, 3, none⟩ = some (.int .i64 a) ∧ w'.cell? ⟨w.heap.size, 4, none⟩ = some (.int .i64 bb) ∧ w'.cell? ⟨w.heap.size, 5, none⟩ = some (.int .i64 c) ∧ w'.cell? ⟨w.heap.size, 6, none⟩ = some (.string s)) (first | exact S1.out | exact S0.out)
      (first | (go_at_call 41; refine (KK.out.prog _ ((BX.out.dr).bk' H.out.b) (TB.out.blw BX.out.dr)).mono ?_; rintro e w2 ⟨rfl, r2⟩; have Z2 := hid (seen_rep H.out (show (w.alloc _).drew.heap[w.heap.size]? = _ from HW.out) BX.out.dr r2); have S1 := hid (Sees.of Z2.out.1 Z2.out.2); have R2 := hid r2; clear r2))
    all_goals
      go_wp2_with fail
      go_meet
      case rel => exact ⟨rfl, rfl, Z2.out.2, Z2.out.1, _, BX.out.dr, R2.out⟩
  case rest =>
    obtain ⟨rfl, rfl, g1, g2, w1, g3, g4⟩ := hcut
    have G4 := hid g4
    have G3 := hid g3
    have S2 := hid (Sees.of g2 g1)
    have HR := hid (ref_on_rep H.out g3 g4)
    have Z1 := hid (And.intro g2 g1)
    clear g1 g2 g3 g4
    go_wp2_with fail
    go_cut [7, 8] (fun s1 s2 w' => s1 = .string ⟨tk.toArray⟩ ∧ s2 = .int .i64 er ∧ ∃ w2, Blw wc w2 ∧ RefStep d.cb d.me d.n p' x' d.lt w2 w')
    case first =>
      go_region_held3 (fun w' => w'.cell? ⟨d.pb, 0, none⟩ = some (.pointer (some ⟨d.b, 0, none⟩)) ∧ w'.cell? ⟨d.pb, 1, none⟩ = some (.pointer (some ⟨d.cb, 0, none⟩)) ∧ w'.cell? ⟨w.heap.size, 3, none⟩ = some (.int .i64 a) ∧ w'.cell? ⟨w.heap.size, 4, none⟩ = some (.int .i64 bb) ∧ w'.cell? ⟨w.heap.size, 5, none⟩ = some (.int .i64 c) ∧ w'.cell? ⟨w.heap.size, 6, none⟩ = some (.string s)) (first | exact S3.out | exact S2.out)
        (first | (go_at_call 42; refine (KK.out.ref _ (HR.out.on (Blw.dr (Blw.rfl _)))).mono ?_; rintro e w4 ⟨rfl, r4⟩; have S3 := hid (Sees.ref H.out Z1.out.1 Z1.out.2 (Blw.dr (Blw.rfl _)) r4); have R4 := hid r4; clear r4))
      all_goals
        go_wp2_with fail
        go_meet
        case rel => exact ⟨rfl, rfl, _, Blw.dr (Blw.rfl _), R4.out⟩
    case rest =>
      obtain ⟨rfl, rfl, w2, g5, g6⟩ := hcut
      have FN := hid (pstep_of H.out hbs KK.out G3.out G4.out (g6.pre g5))
      have htt : (tk == tk) = true := by simp
      have hee : (er == er) = true := by simp
      clear g5 g6
      go_wp2_with fail
      refine (num_any er _).mono ?_
      rintro e w5 ⟨rfl, hw5⟩
      subst w5
      go_wp2
      go_ret
      exact ⟨rfl, FN.out⟩
end Go.Proofs.YtalaldfgjgpacaaGreatDoor

namespace Go.Proofs.YtalaldfgjgpacaaGreatDoor
set_option linter.unusedVariables false
set_option linter.unusedSimpArgs false
open Go.RowKit
attribute [local go_sem ↓] Go.wp_at_zero Go.wp_at_succ run_load63 run_store63
attribute [local go_sem] blkOf_mk offOf_mk isPt_mk isRow_pc Has_drew HasW_drew rowOf_drew

theorem log_any (b me n : Nat) (p : Pc) (x : Ext) (w : World) (h : w.heap[b]? = some (.cells (repArr me n p x) 69)) : Calls Tryz.prog 17 #[.pointer (some ⟨b, 0, none⟩)] w fun e w' => e = .returned (.string ⟨x.log.toArray⟩) ∧ w' = w := by
  have c := rep_log h
  clear h
  go_enter Tryz.func17, Tryz.ntmps17
  go_wp2
  go_ret
  exact ⟨rfl, rfl⟩
theorem rlog_any (cb me n : Nat) (p : Pc) (x : Ext) (lt : Value) (w : World) (h : RefAt w cb me n p x lt) : Calls Tryz.prog 52 #[.pointer (some ⟨cb, 0, none⟩)] w fun e w' => e = .returned (.string ⟨x.log.toArray⟩) ∧ w' = w := by
  obtain ⟨a, b, ac, D, E, ln, ls, h1, _⟩ := h.h
  have c := (ref_n h1).2.2.2.2.2.2.2
  clear h h1
  go_enter Tryz.func52, Tryz.ntmps52
  go_wp2
  go_ret
  exact ⟨rfl, rfl⟩

/-- What Compact makes of what stands beside. -/
def Ext.compact (x : Ext) (p : Pc) : Ext := { x with log := frameL ([83] ++ lastD x.had 2 ++ p.text) }

set_option maxRecDepth 100000 in
set_option maxHeartbeats 2000000 in
theorem compact_any (b me n : Nat) (p : Pc) (x : Ext) (w : World) (hp : p.ok) (hh : x.had < 100) (ht : Tab Tryz.prog w) (h : w.heap[b]? = some (.cells (repArr me n p x) 69)) :
    Calls Tryz.prog 53 #[.pointer (some ⟨b, 0, none⟩)] w fun e w' => e = .returned (.tuple #[]) ∧ RepTo b me n p (x.compact p) w w' := by
  have H := hid h
  have TB := hid ht
  have hrow := rowOf_rep h
  have hhas := Has_rep h
  have c1 := rep_had h
  have HF := hid (fun wx hw => wholeFrame_any x.had p hp wx hh hw)
  have HN : Hid (x.compact p = { x with log := frameL ([83] ++ lastD x.had 2 ++ p.text) }) := rfl
  generalize frameL ([83] ++ lastD x.had 2 ++ p.text) = fr at *
  clear h ht hp
  go_enter Tryz.func53, Tryz.ntmps53
  go_wp2
  go_region_with (first | (go_at_call 104; refine (HF.out _ (TB.out.blw (Blw.dr (Blw.rfl _)))).mono ?_; rintro e w4 ⟨rfl, b4⟩; have c5 := rep_log (b4.bk' (show w.drew.heap[b]? = _ from H.out)); have f5 := blk_frozen (b4.bk' (show w.drew.heap[b]? = _ from H.out)) 138))
  all_goals
    go_end0
    refine ⟨rfl, ?_, ?_⟩
    · rw [HN.out]
      exact rep_put_log (b4.bk' (show w.drew.heap[b]? = _ from H.out)) fr
    · exact (Blw.bx (Blw.tr (Blw.dr (Blw.rfl _)) b4) b).sc _ _

set_option maxRecDepth 100000 in
set_option maxHeartbeats 2000000 in
theorem rcompact_any (cb me n : Nat) (p : Pc) (x : Ext) (lt : Value) (w : World) (hp : p.fine) (hh : x.had < 100) (h : RefAt w cb me n p x lt) :
    Calls Tryz.prog 54 #[.pointer (some ⟨cb, 0, none⟩)] w fun e w' => e = .returned (.tuple #[]) ∧ RefStep cb me n p (x.compact p) lt w w' := by
  obtain ⟨a, b, ac, D, E, ln, ls, h1, h2, h3, h4, h5, h6⟩ := h.h
  have hP := h6.pcAt hp.ok h2 h3
  have HW := hid (write_any a b D E w hP)
  rw [h6.write hp.ok] at HW
  have htl := text_len' p hp.ok
  have HD3 := hid (fun wx => digits_any (3 + p.text.length) 3 wx (by omega) (by omega))
  have HD2 := hid (fun wx => digits_any x.had 2 wx (by omega) (by omega))
  have HN : Hid (x.compact p = { x with log := lastD (3 + p.text.length) 3 ++ [83] ++ lastD x.had 2 ++ p.text }) := by
    show x.compact p = _
    unfold Ext.compact frameL
    have e1 : ([83] ++ lastD x.had 2 ++ p.text).length = 3 + p.text.length := by simp only [List.length_append, lastD_len, List.length_singleton]
    rw [e1]; simp only [List.append_assoc]
  have hl3 := lastD_len (3 + p.text.length) 3
  have hl2 := lastD_len x.had 2
  have FIN : Hid (∀ (w6 : World) (l : Bs), Blw w w6 → RefStep cb me n p { x with log := l } lt w (w6.setCell ⟨cb, 7, none⟩ (.string ⟨l.toArray⟩))) := by
    intro w6 l hb
    have n6 := hb.bq h1
    refine ⟨⟨lt, ⟨a, b, ac, D, E, ln, ls, ref_put_disk n6 l, (h2.on hb).sc n6 (by decide) _, (h3.on hb).sc n6 (by decide) _, (h4.on hb).sc n6 (by decide) 7 _, ((h5.on hb).sc n6 (by decide) (by decide) 7 _).same rfl rfl, h6⟩, .inl rfl⟩, (hb.b2 _).sc cb 7 _ (.inl (.inl rfl))⟩
  have HH := hid h1
  obtain ⟨ao, ca, rfl, _⟩ := h2.op
  obtain ⟨bo, kb, rfl, _⟩ := h3.op
  have c2 := (ref_n h1).2.2.1
  have c3 := (ref_n h1).2.2.2.1
  generalize p.text = tx at *
  generalize lastD (3 + tx.length) 3 = z3 at *
  generalize lastD x.had 2 = z2 at *
  obtain ⟨y1, hy1⟩ : ∃ y1, y1 = z3 ++ [83] := ⟨_, rfl⟩
  obtain ⟨y2, hy2⟩ : ∃ y2, y2 = y1 ++ z2 := ⟨_, rfl⟩
  obtain ⟨y3, hy3⟩ : ∃ y3, y3 = y2 ++ tx := ⟨_, rfl⟩
  have t1 : ByteArray.mk z3.toArray ++ ByteArray.mk #[83] = ByteArray.mk y1.toArray := by rw [hy1]; exact ByteArray.mk_append_mk z3 [83]
  have t2 : ByteArray.mk y1.toArray ++ ByteArray.mk z2.toArray = ByteArray.mk y2.toArray := by rw [hy2]; exact ByteArray.mk_append_mk _ _
  have t3 : ByteArray.mk y2.toArray ++ ByteArray.mk tx.toArray = ByteArray.mk y3.toArray := by rw [hy3]; exact ByteArray.mk_append_mk _ _
  have k1 : y1.length = 4 := by rw [hy1]; simp [hl3]
  have k2 : y2.length = 6 := by rw [hy2]; simp [hl2, k1]
  rw [← hy1, ← hy2, ← hy3] at HN
  clear h h1 h2 h3 h4 h5 h6 hP hp hy1 hy2 hy3
  go_enter Tryz.func54, Tryz.ntmps54
  go_wp2_with fail
  refine HW.out.mono ?_
  rintro e w1 ⟨rfl, b1⟩
  go_wp2_with fail
  refine (HD3.out _).mono ?_
  rintro e w2 ⟨rfl, b2⟩
  have B2 := hid (b1.tr b2)
  have c4 := (ref_n (B2.out.bq HH.out)).2.2.2.2.1
  clear b1 b2 c2 c3
  go_wp2_with fail
  refine (HD2.out _).mono ?_
  rintro e w3 ⟨rfl, b3⟩
  have B3 := hid (B2.out.tr b3)
  have c7 := (ref_n (B3.out.bq HH.out)).2.2.2.2.2.2.2
  have f7 := blk_frozen (B3.out.bq HH.out) 7
  clear b3 c4
  go_wp2
  go_end0
  exact ⟨rfl, by rw [HN.out]; exact FIN.out _ _ B3.out⟩

end Go.Proofs.YtalaldfgjgpacaaGreatDoor
