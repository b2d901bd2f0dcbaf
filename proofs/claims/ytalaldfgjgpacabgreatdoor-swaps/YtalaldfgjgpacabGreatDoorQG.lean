import Derived.Test.YtalaldfgjgpacabGreatDoorHBA
import Derived.Test.YtalaldfgjgpacabGreatDoorHBD
import Derived.Test.YtalaldfgjgpacabGreatDoorQB
import Derived.Test.YtalaldfgjgpacabGreatDoorX14
namespace Go.Proofs.YtalaldfgjgpacabGreatDoor
set_option linter.unusedVariables false
set_option linter.unusedSimpArgs false
open Go.RowKit

/-- A replica takes a message that is to it. -/
theorem take_rep {n me f c : Nat} {kd : UInt8} {E : Hist} {V : Nat → Vec} {p D : Pc} {x : Ext} {K A U : Vec} (hi : RepInv n E V p x K) (hN : Named E) (hn : n ≤ 3) (hme : me < n) (hf : f < n) (hfm : f ≠ me) (hc : c < 100) (hkd : kd = 73 ∨ kd = 70) (hD : GoodD E A U D) (hA : Vec.le A K) (hb : Bnd n U) (hg : GoodE E U) :
    ∃ V' p' x', RepInv n E V' p' x' (Vec.sup K U) ∧ (Vec.le U K → p' = p ∧ x' = x) ∧ (¬ Vec.le U K → p' = p.join D ∧ x' = x.next D) ∧ ∀ (b : Nat) (w : World), Tab Tryz.prog w → w.heap[b]? = some (.cells (repArr me n p x) 74) →
      Calls Tryz.prog 21 #[.pointer (some ⟨b, 0, none⟩), .string ⟨(headL kd f me c ++ D.text).toArray⟩] w fun e w' => e = .returned (.tuple #[.string ⟨(headL 65 me f c).toArray⟩, .int .i64 0]) ∧ RepTo b me n p' x' w w' := by
  have g1 : GoodD E K (Vec.sup K U) D := hD.at hN hi.closed hA
  have g2 : Bnd n (Vec.sup K U) := hi.bnd.sup hb
  have g3 : GoodE E (Vec.sup K U) := hi.good.sup hg
  have hfit := hi.ok.fits hi.short
  have hf1 := g1.fits g2
  have hn1 := g1.news hi.bnd g2 hn
  rw [← hi.is] at hf1 hn1
  have hce : checkE n p D = 0 := by
    have := checkE_fits n p D
    rw [hf1] at this
    exact of_decide_eq_true this.symm
  have hfm' : forMe me n f me = true := by unfold forMe; simp; exact ⟨hfm, hf⟩
  have d1 := hD.fine hg
  have d2 := hD.inb hb hn
  by_cases hle : Vec.le U K
  · have hs : Vec.sup K U = K := Vec.sup_of_le hle
    have hnw : decide (p.dots < (p.join D).dots) = false := decide_eq_false (fun h => hn1.1 h hs.symm)
    refine ⟨V, p, x, by rw [hs]; exact hi, fun _ => ⟨rfl, rfl⟩, fun h => absurd hle h, fun b w ht hb' => ?_⟩
    refine take_head b me n f me c kd p D x 0 (headL 65 me f c) p x w hkd (by omega) (by omega) hc hn hme hfit.2.2 ht d1 d2 hb' ?_
    rw [hfm', hce, hnw]
    exact ⟨(fun h => by cases h), (fun _ h => by cases h), fun _ _ h => absurd rfl h, fun _ _ _ _ => ⟨rfl, rfl, rfl, rfl⟩, (fun _ _ _ h => by cases h)⟩
  · have hne : K ≠ Vec.sup K U := fun e => hle (by rw [e]; exact Vec.le_sup_r K U)
    have hnw : decide (p.dots < (p.join D).dots) = true := decide_eq_true (hn1.2 hne)
    refine ⟨_, _, _, hi.learn hn g1 g2 g3 hne, fun h => absurd h hle, fun _ => ⟨rfl, rfl⟩, fun b w ht hb' => ?_⟩
    refine take_head b me n f me c kd p D x 0 (headL 65 me f c) _ _ w hkd (by omega) (by omega) hc hn hme hfit.2.2 ht d1 d2 hb' ?_
    rw [hfm', hce, hnw]
    exact ⟨(fun h => by cases h), (fun _ h => by cases h), fun _ _ h => absurd rfl h, (fun _ _ _ h => by cases h), fun _ _ _ _ => ⟨rfl, rfl, rfl, rfl⟩⟩
end Go.Proofs.YtalaldfgjgpacabGreatDoor

namespace Go.Proofs.YtalaldfgjgpacabGreatDoor
set_option linter.unusedVariables false
set_option linter.unusedSimpArgs false
open Go.RowKit

/-- A letter that lies on the wire, found by its number. -/
theorem wire_nth {w : World} {m : CM} {s : CS} (h : ClAt w m s) (hI : Inv s) (hw : s.wire ≠ []) (hwl : s.wire.length ≤ 10000000) (a : Int) (ha : i64ok a) {g cap : Nat} (hv : m.wv = .slice (some ⟨g, 0, none⟩) s.wire.length cap) :
    ∃ (le : Mail) (uo : Option Addr) (ul uc : Nat), le ∈ s.wire ∧ ∀ wx, Blw w wx → Calls Tryz.prog 19 #[.pointer (some ⟨m.cb, 0, none⟩), .slice (some ⟨g, 0, none⟩) s.wire.length cap, .int .i64 a, .int .i64 0] wx fun z w' => z = .returned (.tuple #[.agg #[.string ⟨le.text.toArray⟩, .int .i64 le.frm, .int .i64 le.dst, .slice uo ul uc], .int .i64 (pickN 0 s.n)]) ∧ Blw wx w' := by
  have hlen : 0 < s.wire.length := List.length_pos_iff.2 hw
  have hil := nthAt_lt hlen a
  obtain ⟨le, hget⟩ : ∃ le, s.wire[nthAt s.wire.length a]? = some le := ⟨_, List.getElem?_eq_getElem hil⟩
  obtain ⟨u, hfu, hfz⟩ := h.wi.i _ _ hget
  obtain ⟨gu, hu, _⟩ := hfz
  have hl4 : ∀ i, i < s.wire.length → (m.wf i).length = 4 := by
    intro i hi
    obtain ⟨u, a, _⟩ := h.wi.i i _ (List.getElem?_eq_getElem hi)
    rw [a]; rfl
  subst hu
  refine ⟨le, some ⟨gu, 0, none⟩, s.n, s.n, List.mem_of_getElem? hget, fun wx hb => ?_⟩
  have hcell : ∀ jj, jj < 4 → wx.cell? ⟨g, nthAt s.wire.length a * 4 + jj, none⟩ = (mailC le (.slice (some ⟨gu, 0, none⟩) s.n s.n))[jj]? := by
    intro jj hj
    have ho := (h.blw hb).wi.o
    rw [hv] at ho
    have h4 : (nthAt s.wire.length a + 1) * 4 ≤ s.wire.length * 4 := Nat.mul_le_mul_right _ hil
    rw [ownsRow_cell ho _ (by omega)]
    exact mail_cells hil hfu hl4 jj hj
  have this := nth_go (h.blw hb) g cap s.wire.length a 0 le.text le.frm le.dst (some ⟨gu, 0, none⟩) s.n s.n (nthAt s.wire.length a) hil hwl ha.1 ha.2 (by omega) (by omega) rfl (by have := hcell 0 (by omega); rw [Nat.add_zero] at this; exact this) (hcell 1 (by omega)) (hcell 2 (by omega)) (hcell 3 (by omega))
  rw [if_neg (by omega)] at this
  exact this

/-- Two replicas beside two letters. -/
structure SwAt (w0 w : World) (lp lq bx by' d n : Nat) (L1 L2 : Array Value) (px : Pc) (xx : Ext) (py : Pc) (xy : Ext) : Prop where
  l1 : w.heap[lp]? = some (.cells L1 48)
  l2 : w.heap[lq]? = some (.cells L2 48)
  rx : w.heap[bx]? = some (.cells (repArr d n px xx) 74)
  ry : w.heap[by']? = some (.cells (repArr d n py xy) 74)
  ne : bx ≠ by'
  gx : w0.heap.size ≤ bx
  gy : w0.heap.size ≤ by'
  tab : Tab Tryz.prog w
  bl : Blw w0 w
section
variable {w0 w w' : World} {lp lq bx by' d n : Nat} {L1 L2 : Array Value} {px : Pc} {xx : Ext} {py : Pc} {xy : Ext}
theorem SwAt.blw (h : SwAt w0 w lp lq bx by' d n L1 L2 px xx py xy) (hb : Blw w w') : SwAt w0 w' lp lq bx by' d n L1 L2 px xx py xy :=
  ⟨hb.bk' h.l1, hb.bk' h.l2, hb.bk' h.rx, hb.bk' h.ry, h.ne, h.gx, h.gy, h.tab.blw hb, h.bl.tr hb⟩
theorem bx_blw {b : Nat} (h : Blw w0 w) (hb : Bx b w w') (hg : w0.heap.size ≤ b) : Blw w0 w' :=
  ⟨hb.os.trans h.os, hb.tape.trans h.tape, hb.output.trans h.output, Nat.le_trans h.size hb.size, fun k hk => (hb.block k (Nat.lt_of_lt_of_le hk h.size) (by omega)).trans (h.block k hk)⟩
theorem SwAt.tx (h : SwAt w0 w lp lq bx by' d n L1 L2 px xx py xy) {p' : Pc} {x' : Ext} (hr : RepTo bx d n p' x' w w') : SwAt w0 w' lp lq bx by' d n L1 L2 p' x' py xy := by
  obtain ⟨h1, hb⟩ := hr
  refine ⟨(hb.block _ (lt_of_blk h.l1) (ne_ty h.l1 h.rx (by decide))).trans h.l1, (hb.block _ (lt_of_blk h.l2) (ne_ty h.l2 h.rx (by decide))).trans h.l2, h1, (hb.block _ (lt_of_blk h.ry) (Ne.symm h.ne)).trans h.ry, h.ne, h.gx, h.gy, ?_, bx_blw h.bl hb h.gx⟩
  exact h.tab.on fun g hg => hb.block g (h.tab.lt g hg) (h.tab.ne h.rx g hg)
theorem SwAt.ty (h : SwAt w0 w lp lq bx by' d n L1 L2 px xx py xy) {p' : Pc} {x' : Ext} (hr : RepTo by' d n p' x' w w') : SwAt w0 w' lp lq bx by' d n L1 L2 px xx p' x' := by
  obtain ⟨h1, hb⟩ := hr
  refine ⟨(hb.block _ (lt_of_blk h.l1) (ne_ty h.l1 h.ry (by decide))).trans h.l1, (hb.block _ (lt_of_blk h.l2) (ne_ty h.l2 h.ry (by decide))).trans h.l2, (hb.block _ (lt_of_blk h.rx) h.ne).trans h.rx, h1, h.ne, h.gx, h.gy, ?_, bx_blw h.bl hb h.gy⟩
  exact h.tab.on fun g hg => hb.block g (h.tab.lt g hg) (h.tab.ne h.ry g hg)
end
end Go.Proofs.YtalaldfgjgpacabGreatDoor
