import Derived.Test.YtalaldfgjgpacabGreatDoorHBA
import Derived.Test.YtalaldfgjgpacabGreatDoorQA
import Derived.Test.YtalaldfgjgpacabGreatDoorQB
import Derived.Test.YtalaldfgjgpacabGreatDoorX14
namespace Go.Proofs.YtalaldfgjgpacabGreatDoor
set_option linter.unusedVariables false
set_option linter.unusedSimpArgs false
open Go.RowKit

/-- A replica takes a message that is to it. -/
theorem take_rep {n me f c : Nat} {kd : UInt8} {E : Hist} {V : Nat → Vec} {p D : Pc} {x : Ext} {K A U : Vec} (hi : RepInv n E V p x K) (hN : Named E) (hn : n ≤ 3) (hme : me < n) (hf : f < n) (hfm : f ≠ me) (hc : c < 100) (hkd : kd = 73 ∨ kd = 70) (hD : GoodD E A U D) (hA : Vec.le A K) (hb : Bnd n U) (hg : GoodE E U) :
    ∃ V' p' x', RepInv n E V' p' x' (Vec.sup K U) ∧ (Vec.le U K → p' = p ∧ x' = x) ∧ (¬ Vec.le U K → p' = p.join D ∧ x' = x.next D) ∧ ∀ (b : Nat) (w : World), Tab Tryz.prog w → w.heap[b]? = some (.cells (repArr me n p x) 74) →
      Calls Tryz.prog 21 #[.pointer (some ⟨b, 0, none⟩), .string ⟨(headL kd f me c ++ D.text).toArray⟩] w fun e w' => e = .returned (.tuple #[.string ⟨(headL 65 me f c).toArray⟩, .int .i64 0]) ∧ RepTo b me n p' x' w w' := by
  have g1 : GoodD E K (Vec.sup K U) D := hD.at hN hi.closed hA
  have g2 : Bnd n (Vec.sup K U) := hi.bnd.sup hb
  have g3 : GoodE E (Vec.sup K U) := hi.good.sup hg
  have hfit := hi.ok.fits hi.short
  have hf1 := g1.fits g2
  have hn1 := g1.news hi.bnd g2 hn
  rw [← hi.is] at hf1 hn1
  have hce : checkE n p D = 0 := by
    have := checkE_fits n p D
    rw [hf1] at this
    exact of_decide_eq_true this.symm
  have hfm' : forMe me n f me = true := by unfold forMe; simp; exact ⟨hfm, hf⟩
  have d1 := hD.fine hg
  have d2 := hD.inb hb hn
  by_cases hle : Vec.le U K
  · have hs : Vec.sup K U = K := Vec.sup_of_le hle
    have hnw : decide (p.dots < (p.join D).dots) = false := decide_eq_false (fun h => hn1.1 h hs.symm)
    refine ⟨V, p, x, by rw [hs]; exact hi, fun _ => ⟨rfl, rfl⟩, fun h => absurd hle h, fun b w ht hb' => ?_⟩
    refine take_head b me n f me c kd p D x 0 (headL 65 me f c) p x w hkd (by omega) (by omega) hc hn hme hfit.2.2 ht d1 d2 hb' ?_
    rw [hfm', hce, hnw]
    exact ⟨(fun h => by cases h), (fun _ h => by cases h), fun _ _ h => absurd rfl h, fun _ _ _ _ => ⟨rfl, rfl, rfl, rfl⟩, (fun _ _ _ h => by cases h)⟩
  · have hne : K ≠ Vec.sup K U := fun e => hle (by rw [e]; exact Vec.le_sup_r K U)
    have hnw : decide (p.dots < (p.join D).dots) = true := decide_eq_true (hn1.2 hne)
    refine ⟨_, _, _, hi.learn hn g1 g2 g3 hne, fun h => absurd h hle, fun _ => ⟨rfl, rfl⟩, fun b w ht hb' => ?_⟩
    refine take_head b me n f me c kd p D x 0 (headL 65 me f c) _ _ w hkd (by omega) (by omega) hc hn hme hfit.2.2 ht d1 d2 hb' ?_
    rw [hfm', hce, hnw]
    exact ⟨(fun h => by cases h), (fun _ h => by cases h), fun _ _ h => absurd rfl h, (fun _ _ _ h => by cases h), fun _ _ _ _ => ⟨rfl, rfl, rfl, rfl⟩⟩
end Go.Proofs.YtalaldfgjgpacabGreatDoor

namespace Go.Proofs.YtalaldfgjgpacabGreatDoor
set_option linter.unusedVariables false
set_option linter.unusedSimpArgs false
open Go.RowKit

section
variable {n : Nat} {p : Nat → Pc} {x : Nat → Ext} {K : Nat → Vec} {evs : List Ev} {E : Hist} {V : Nat → Nat → Vec}

/-- Replica i tells replica j, which answers. -/
theorem Core.tell (h : Core n p x K evs [] [] E V) {i j : Nat} (hi : i < n) (hj : j < n) (hij : i ≠ j) (hs : (x i).had ≠ (x i).ack j) :
    ∃ (kd : UInt8) (D : Pc) (p' : Pc) (x' : Ext) (V' : Nat → Nat → Vec), shipL i (p i) (x i) j ((x i).ack j) = headL kd i j (x i).had ++ D.text ∧ (x i).had < 100 ∧ (x i).ack j < (x i).had ∧
      Core n (upd p j p') (upd (upd x j x') i ((x i).setAck j (x i).had)) (upd K j (Vec.sup (K j) (K i))) evs [] [] E V' ∧ (Vec.le (K i) (K j) → p' = p j ∧ x' = x j) ∧
      ∀ (b : Nat) (w : World), Tab Tryz.prog w → w.heap[b]? = some (.cells (repArr j n (p j) (x j)) 74) →
        Calls Tryz.prog 21 #[.pointer (some ⟨b, 0, none⟩), .string ⟨(headL kd i j (x i).had ++ D.text).toArray⟩] w fun e w' => e = .returned (.tuple #[.string ⟨(headL 65 j i (x i).had).toArray⟩, .int .i64 0]) ∧ RepTo b j n p' x' w w' := by
  have ri := h.rep i hi
  have rj := h.rep j hj
  have hh := (ri.ok.fits ri.short).2.1
  have ha := ri.ackle j
  have hm := h.shipped hi hj hij hs
  obtain ⟨kd, D, A, q1, q2, gd, hA⟩ : ∃ (kd : UInt8) (D : Pc) (A : Vec), (kd = 73 ∨ kd = 70) ∧ shipL i (p i) (x i) j ((x i).ack j) = headL kd i j (x i).had ++ D.text ∧ GoodD E A (K i) D ∧ Vec.le A (K j) := by
    unfold shipL
    rw [if_neg hs]
    by_cases c : (x i).had - (x i).ack j ≤ (x i).kept
    · rw [if_pos c]
      have hk : (x i).had - (x i).ack j ≤ (x i).late.length := Nat.le_trans c (Nat.min_le_right _ _)
      refine ⟨73, _, V i ((x i).ack j), .inl rfl, rfl, ?_, h.ack i j hi hj (Ne.symm hij)⟩
      have := ri.tail0 hk (by omega)
      rw [show (x i).had - ((x i).had - (x i).ack j) = (x i).ack j by omega] at this
      exact this
    · rw [if_neg c]
      refine ⟨70, p i, Vec.zero, .inr rfl, rfl, ?_, fun _ => Nat.zero_le _⟩
      rw [ri.is]; exact GoodD.whole ri.closed
  obtain ⟨V1, p', x', i1, e1, e2, t1⟩ := take_rep rj h.named h.n3 hj hi hij hh q1 gd hA ri.bnd ri.good
  by_cases hle : Vec.le (K i) (K j)
  · obtain ⟨rfl, rfl⟩ := e1 hle
    refine ⟨kd, D, p j, x j, V, q2, hh, by omega, ?_, fun _ => ⟨rfl, rfl⟩, t1⟩
    rw [upd_self, upd_self, Vec.sup_of_le hle, upd_self]
    exact h.setAck hi hj (Nat.le_refl _) (by rw [ri.vh]; exact hle)
  · obtain ⟨rfl, rfl⟩ := e2 hle
    have hne : K j ≠ Vec.sup (K j) (K i) := fun e => hle (by rw [e]; exact Vec.le_sup_r _ _)
    have hT := h.take hm gd hA hne
    have hS := hT.setAck (r := i) (f := j) (cnt := (x i).had) hi hj (by
      show (x i).had ≤ (upd x j _ i).had
      rw [upd_ne _ _ hij]; exact Nat.le_refl _) (by
      show Vec.le (upd V j _ i (x i).had) (upd K j (Vec.sup (K j) (K i)) j)
      rw [upd_ne _ _ hij, upd_at, ri.vh]; exact Vec.le_sup_r _ _)
    rw [show upd x j ((x j).next D) i = x i from upd_ne _ _ hij] at hS
    exact ⟨kd, D, (p j).join D, (x j).next D, _, q2, hh, by omega, hS, fun h => absurd h hle, t1⟩
end

/-- A cluster as Spreads goes on with it. -/
structure SpAt (w0 w : World) (cb xb kb n cx ck : Nat) (R xa : Array Value) (b : Nat → Nat) (ea : Option Addr) (ecap : Nat) (evs : List Ev) (us : Nat → Nat) (alb : Nat) (T : Vec) (p : Nat → Pc) (x : Nat → Ext) : Prop where
  row : w.heap[cb]? = some (.cells R 39)
  r0 : R[0]? = some (.int .i64 n)
  r2 : R[2]? = some (.slice (some ⟨xb, 0, none⟩) n cx)
  r3 : R[3]? = some (.slice (some ⟨kb, 0, none⟩) n ck)
  r4 : R[4]? = some (.slice ea evs.length ecap)
  xs : w.heap[xb]? = some (.cells xa 42)
  xr : ∀ r, r < n → xa[r]? = some (.pointer (some ⟨b r, 0, none⟩))
  rep : ∀ r, r < n → w.heap[b r]? = some (.cells (repArr r n (p r) (x r)) 74)
  bne : ∀ r q, r < n → q < n → r ≠ q → b r ≠ b q
  al : w.heap[alb]? = some (.cells (intsV (vecL n T)) 3)
  kn : ∃ ka, w.heap[kb]? = some (.cells ka 37) ∧ n ≤ ka.size
  ev : EvsIn w n ea evs us
  evb : ∀ eg, ea = some ⟨eg, 0, none⟩ → ∃ C, w.heap[eg]? = some (.cells C 95)
  gb : ∀ r, r < n → w0.heap.size ≤ b r
  gk : w0.heap.size ≤ kb
  tab : Tab Tryz.prog w
  bl : Blw w0 w
  tl : ∀ g, Tryz.prog.globalNamed "internal/strconv.uint64pow10" = some g → g < w0.heap.size
section
variable {w0 w w' : World} {cb xb kb n cx ck : Nat} {R xa : Array Value} {b : Nat → Nat} {ea : Option Addr} {ecap : Nat} {evs : List Ev} {us : Nat → Nat} {alb : Nat} {T : Vec} {p : Nat → Pc} {x : Nat → Ext}
theorem SpAt.blw (h : SpAt w0 w cb xb kb n cx ck R xa b ea ecap evs us alb T p x) (hb : Blw w w') : SpAt w0 w' cb xb kb n cx ck R xa b ea ecap evs us alb T p x := by
  refine ⟨hb.bk' h.row, h.r0, h.r2, h.r3, h.r4, hb.bk' h.xs, h.xr, fun r hr => hb.bk' (h.rep r hr), h.bne, hb.bk' h.al, ?_, h.ev.blw hb, fun eg he => ?_, h.gb, h.gk, h.tab.blw hb, h.bl.tr hb, h.tl⟩
  · obtain ⟨ka, h1, h2⟩ := h.kn
    exact ⟨ka, hb.bk' h1, h2⟩
  · obtain ⟨C, hC⟩ := h.evb eg he
    exact ⟨C, hb.bk' hC⟩
theorem EvsIn.bx {k : Nat} {C : Array Value} {t : TypeId} (h : EvsIn w n ea evs us) (hb : Bx k w w') (hk : w.heap[k]? = some (.cells C t)) (ht : t ≠ 3) (he : ∀ eg, ea = some ⟨eg, 0, none⟩ → eg ≠ k) : EvsIn w' n ea evs us := by
  refine ⟨fun i e hx => ?_, fun i e hx => (hb.block _ (lt_of_blk (h.seen i e hx)) (ne_ty (h.seen i e hx) hk (Ne.symm ht))).trans (h.seen i e hx), h.whos⟩
  obtain ⟨eg, h1, h2⟩ := h.cells i e hx
  refine ⟨eg, h1, fun j hj => ?_⟩
  have h0 := h2 0 (by omega)
  have hlt : eg < w.heap.size := World.block_lt_of_cell? w ⟨eg, i * 7 + 0, none⟩ (show w.cell? ⟨eg, i * 7 + 0, none⟩ = some _ from h0)
  rw [World.cell?_of_block (w := w) (a := ⟨eg, i * 7 + j, none⟩) (hb.block eg hlt (he eg h1))]
  exact h2 j hj
theorem SpAt.to (h : SpAt w0 w cb xb kb n cx ck R xa b ea ecap evs us alb T p x) {r : Nat} (hr : r < n) {p' : Pc} {x' : Ext} (ht : RepTo (b r) r n p' x' w w') : SpAt w0 w' cb xb kb n cx ck R xa b ea ecap evs us alb T (upd p r p') (upd x r x') := by
  obtain ⟨h1, hb⟩ := ht
  have hR := h.rep r hr
  have e : ∀ {k : Nat} {C : Array Value} {t : TypeId}, w.heap[k]? = some (.cells C t) → t ≠ 74 → w'.heap[k]? = some (.cells C t) := fun hk hn => (hb.block _ (lt_of_blk hk) (ne_ty hk hR hn)).trans hk
  refine ⟨e h.row (by decide), h.r0, h.r2, h.r3, h.r4, e h.xs (by decide), h.xr, fun q hq => ?_, h.bne, e h.al (by decide), ?_, h.ev.bx hb hR (by decide) (fun eg he => ?_), fun eg he => ?_, h.gb, h.gk, ?_, ?_, h.tl⟩
  · by_cases c : q = r
    · subst c; rw [upd_at, upd_at]; exact h1
    · rw [upd_ne _ _ c, upd_ne _ _ c]
      exact (hb.block _ (lt_of_blk (h.rep q hq)) (h.bne q r hq hr c)).trans (h.rep q hq)
  · obtain ⟨ka, k1, k2⟩ := h.kn
    exact ⟨ka, e k1 (by decide), k2⟩
  · obtain ⟨C, hC⟩ := h.evb eg he
    exact ne_ty hC hR (by decide)
  · obtain ⟨C, hC⟩ := h.evb eg he
    exact ⟨C, e hC (by decide)⟩
  · exact h.tab.on fun g hg => hb.block g (h.tab.lt g hg) (h.tab.ne hR g hg)
  · have g1 := h.gb r hr
    exact ⟨hb.os.trans h.bl.os, hb.tape.trans h.bl.tape, hb.output.trans h.bl.output, Nat.le_trans h.bl.size hb.size, fun k hk => (hb.block k (Nat.lt_of_lt_of_le hk h.bl.size) (by omega)).trans (h.bl.block k hk)⟩
/-- knows[r] = all. -/
theorem SpAt.kset (h : SpAt w0 w cb xb kb n cx ck R xa b ea ecap evs us alb T p x) {r : Nat} (hr : r < n) :
    SpAt w0 (w.setCell ⟨kb, r, none⟩ (.slice (some ⟨alb, 0, none⟩) n n)) cb xb kb n cx ck R xa b ea ecap evs us alb T p x ∧ (w.setCell ⟨kb, r, none⟩ (.slice (some ⟨alb, 0, none⟩) n n)).cell? ⟨kb, r, none⟩ = some (.slice (some ⟨alb, 0, none⟩) n n) := by
  obtain ⟨ka, k1, k2⟩ := h.kn
  have hb : Bx kb w (w.setCell ⟨kb, r, none⟩ (.slice (some ⟨alb, 0, none⟩) n n)) := (Bx.rfl kb w).scs r [_]
  have hs := heap_setCell_self (o := r) k1 (.slice (some ⟨alb, 0, none⟩) n n)
  have e : ∀ {k : Nat} {C : Array Value} {t : TypeId}, w.heap[k]? = some (.cells C t) → t ≠ 37 → (w.setCell ⟨kb, r, none⟩ (.slice (some ⟨alb, 0, none⟩) n n)).heap[k]? = some (.cells C t) := fun hk hn => (hb.block _ (lt_of_blk hk) (ne_ty hk k1 hn)).trans hk
  refine ⟨⟨e h.row (by decide), h.r0, h.r2, h.r3, h.r4, e h.xs (by decide), h.xr, fun q hq => e (h.rep q hq) (by decide), h.bne, e h.al (by decide), ⟨_, hs, by simpa using k2⟩, h.ev.bx hb k1 (by decide) (fun eg he => ?_), fun eg he => ?_, h.gb, h.gk, ?_, ?_, h.tl⟩, ?_⟩
  · obtain ⟨C, hC⟩ := h.evb eg he
    exact ne_ty hC k1 (by decide)
  · obtain ⟨C, hC⟩ := h.evb eg he
    exact ⟨C, e hC (by decide)⟩
  · exact h.tab.on fun g hg => hb.block g (h.tab.lt g hg) (by have := h.tl g hg; have := h.gk; omega)
  · have g1 := h.gk
    exact ⟨hb.os.trans h.bl.os, hb.tape.trans h.bl.tape, hb.output.trans h.bl.output, Nat.le_trans h.bl.size hb.size, fun k hk => (hb.block k (Nat.lt_of_lt_of_le hk h.bl.size) (by omega)).trans (h.bl.block k hk)⟩
  · rw [blk_cell hs]
    simp [Array.getElem?_setIfInBounds]; omega
end
end Go.Proofs.YtalaldfgjgpacabGreatDoor
