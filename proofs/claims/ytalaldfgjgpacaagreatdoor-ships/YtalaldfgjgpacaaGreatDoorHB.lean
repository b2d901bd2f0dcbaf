import Derived.Test.YtalaldfgjgpacaaGreatDoorFA
import Derived.Test.YtalaldfgjgpacaaGreatDoorH1
import Derived.Maps.AppendAt
namespace Go.Proofs.YtalaldfgjgpacaaGreatDoor
set_option linter.unusedVariables false
set_option linter.unusedSimpArgs false
open Go.RowKit
attribute [local go_sem ↓] Go.wp_at_zero Go.wp_at_succ

/-- What the reading of a piece has in hand. -/
structure RD (w wr : World) (a b u : Value) (D E U : List Bs) : Prop where
  r : wr.heap[w.heap.size]? = some (.cells #[.slice none 0 0, .slice none 0 0] 120)
  p : wr.heap[w.heap.size + 1]? = some (.cells #[a, b] 120)
  la : Ls wr (w.heap.size + 2) a D
  lb : Ls wr (w.heap.size + 2) b E
  lu : Ls wr (w.heap.size + 2) u U
  nab : ∀ g, a.ownBlock = some g → b.ownBlock ≠ some g
  nau : ∀ g, a.ownBlock = some g → u.ownBlock ≠ some g
  nbu : ∀ g, b.ownBlock = some g → u.ownBlock ≠ some g
  bl : Blw w wr

theorem RD.on {w wr w' : World} {a b u : Value} {D E U : List Bs} (h : RD w wr a b u D E U) (hb : Blw wr w') : RD w w' a b u D E U :=
  ⟨hb.bk' h.r, hb.bk' h.p, h.la.on hb, h.lb.on hb, h.lu.on hb, h.nab, h.nau, h.nbu, h.bl.tr hb⟩

theorem RD.start (w : World) : RD w ((w.alloc (.cells #[.slice none 0 0, .slice none 0 0] 120)).alloc (.cells #[.slice none 0 0, .slice none 0 0] 120)) (.slice none 0 0) (.slice none 0 0) (.slice none 0 0) [] [] [] :=
  ⟨hp_old _ (by simp) (hp_new _ _), hp_new2 w _ _, Ls.nil _ _, Ls.nil _ _, Ls.nil _ _, (fun g hg => by cases hg), (fun g hg => by cases hg), (fun g hg => by cases hg), ((Blw.rfl _).al _).al _⟩

theorem Ls.lt {w : World} {base : Nat} {v : Value} {L : List Bs} (h : Ls w base v L) {g : Nat} (hg : v.ownBlock = some g) : base ≤ g ∧ g < w.heap.size := by
  rcases h.2 with ⟨rfl, hn⟩ | ⟨g', cap, cur, rfl, hg', hh, _⟩
  · cases hg
  · have : g' = g := by simpa [Value.ownBlock] using hg
    subst this; exact ⟨hg', lt_of_blk hh⟩

theorem grow_bk {w w1 : World} {r : Option Nat} (h : w.grownBy w1 r) {k : Nat} {o : Obj} (hk : w.heap[k]? = some o) (hne : r ≠ some k) : w1.heap[k]? = some o :=
  (h.block k (lt_of_blk hk) (fun e => hne e.symm)).trans hk
theorem grow_ls {w w1 : World} {r : Option Nat} (h : w.grownBy w1 r) {base : Nat} {v : Value} {L : List Bs} (hl : Ls w base v L) (hne : ∀ g, v.ownBlock = some g → r ≠ some g) : Ls w1 base v L :=
  hl.kept fun g C hg hC => h.block g (lt_of_blk hC) (fun e => hne g hg e.symm)
theorem sc_ls {w : World} {base b o : Nat} {u v : Value} {L : List Bs} (hl : Ls w base v L) (hb : b < base) : Ls (w.setCell ⟨b, o, none⟩ u) base v L :=
  hl.kept fun g C hg hC => Below.heap_setCell w ⟨b, o, none⟩ u g (fun e => by have := (hl.lt hg).1; simp at e; omega)
theorem grow_blw {w0 w w1 : World} {r : Option Nat} (hb : Blw w0 w) (h : w.grownBy w1 r) (hr : ∀ g, r = some g → w0.heap.size ≤ g) : Blw w0 w1 := by
  refine ⟨h.os.trans hb.os, h.tape.trans hb.tape, h.output.trans hb.output, Nat.le_trans hb.sz h.size, fun k hk => ?_⟩
  rw [h.block k (Nat.lt_of_lt_of_le hk hb.sz) (fun e => by have := hr k e.symm; omega)]
  exact hb.bk k hk

theorem RD.grown {w wr w1 : World} {a b u v v' : Value} {D E U V : List Bs} (h : RD w wr a b u D E U) (hv : Ls wr (w.heap.size + 2) v V) (hg : wr.grownBy w1 v.ownBlock) :
    w1.heap[w.heap.size]? = some (.cells #[.slice none 0 0, .slice none 0 0] 120) ∧ w1.heap[w.heap.size + 1]? = some (.cells #[a, b] 120) ∧ Blw w w1 := by
  refine ⟨grow_bk hg h.r (fun e => by have := (hv.lt e).1; omega), grow_bk hg h.p (fun e => by have := (hv.lt e).1; omega), grow_blw h.bl hg (fun g e => by have := (hv.lt e).1; omega)⟩

theorem RD.growA {w wr w1 : World} {a a' b u : Value} {D D' E U : List Bs} (h : RD w wr a b u D E U) (hg : wr.grownBy w1 a.ownBlock) (ho : Ls w1 (w.heap.size + 2) a' D') (hat : a'.ownBlock = a.ownBlock ∨ ∃ k, a'.ownBlock = some k ∧ wr.heap.size ≤ k) :
    RD w (w1.setCell ⟨w.heap.size + 1, 0, none⟩ a') a' b u D' E U := by
  obtain ⟨g1, g2, g3⟩ := h.grown (v' := a') h.la hg
  have dis : ∀ (v : Value) (L : List Bs), Ls wr (w.heap.size + 2) v L → (∀ g, a.ownBlock = some g → v.ownBlock ≠ some g) → ∀ g, a'.ownBlock = some g → v.ownBlock ≠ some g := by
    intro v L hv hn g hg' hvg
    rcases hat with e | ⟨k, e, hk⟩
    · exact hn g (by rw [← e]; exact hg') hvg
    · have : g = k := by rw [e] at hg'; simpa using hg'.symm
      have := (hv.lt hvg).2; omega
  refine ⟨?_, ?_, sc_ls ho (by omega), sc_ls (grow_ls hg h.lb (fun g e e' => h.nab g e' e)) (by omega), sc_ls (grow_ls hg h.lu (fun g e e' => h.nau g e' e)) (by omega), dis b E h.lb h.nab, dis u U h.lu h.nau, h.nbu, g3.sc _ _ _ (by omega)⟩
  · rw [Below.heap_setCell _ ⟨w.heap.size + 1, 0, none⟩ a' _ (by simp)]; exact g1
  · rw [heap_setCell_self g2]; rfl
theorem RD.growB {w wr w1 : World} {a b b' u : Value} {D E E' U : List Bs} (h : RD w wr a b u D E U) (hg : wr.grownBy w1 b.ownBlock) (ho : Ls w1 (w.heap.size + 2) b' E') (hat : b'.ownBlock = b.ownBlock ∨ ∃ k, b'.ownBlock = some k ∧ wr.heap.size ≤ k) :
    RD w (w1.setCell ⟨w.heap.size + 1, 1, none⟩ b') a b' u D E' U := by
  obtain ⟨g1, g2, g3⟩ := h.grown (v' := b') h.lb hg
  refine ⟨?_, ?_, sc_ls (grow_ls hg h.la (fun g e e' => h.nab g e e')) (by omega), sc_ls ho (by omega), sc_ls (grow_ls hg h.lu (fun g e e' => h.nbu g e' e)) (by omega), ?_, h.nau, ?_, g3.sc _ _ _ (by omega)⟩
  · rw [Below.heap_setCell _ ⟨w.heap.size + 1, 1, none⟩ b' _ (by simp)]; exact g1
  · rw [heap_setCell_self g2]; rfl
  · intro g e e'
    rcases hat with k | ⟨i, k, hi⟩
    · exact h.nab g e (by rw [← k]; exact e')
    · have : g = i := by rw [k] at e'; simpa using e'.symm
      have := (h.la.lt e).2; omega
  · intro g e e'
    rcases hat with k | ⟨i, k, hi⟩
    · exact h.nbu g (by rw [← k]; exact e) e'
    · have : g = i := by rw [k] at e; simpa using e.symm
      have := (h.lu.lt e').2; omega
theorem RD.growU {w wr w1 : World} {a b u u' : Value} {D E U U' : List Bs} (h : RD w wr a b u D E U) (hg : wr.grownBy w1 u.ownBlock) (ho : Ls w1 (w.heap.size + 2) u' U') (hat : u'.ownBlock = u.ownBlock ∨ ∃ k, u'.ownBlock = some k ∧ wr.heap.size ≤ k) :
    RD w w1 a b u' D E U' := by
  obtain ⟨g1, g2, g3⟩ := h.grown (v' := u') h.lu hg
  refine ⟨g1, g2, grow_ls hg h.la (fun g e e' => h.nau g e e'), grow_ls hg h.lb (fun g e e' => h.nbu g e e'), ho, h.nab, ?_, ?_, g3⟩
  · intro g e e'
    rcases hat with k | ⟨i, k, hi⟩
    · exact h.nau g e (by rw [← k]; exact e')
    · have : g = i := by rw [k] at e'; simpa using e'.symm
      have := (h.la.lt e).2; omega
  · intro g e e'
    rcases hat with k | ⟨i, k, hi⟩
    · exact h.nbu g e (by rw [← k]; exact e')
    · have : g = i := by rw [k] at e'; simpa using e'.symm
      have := (h.lb.lt e).2; omega
end Go.Proofs.YtalaldfgjgpacaaGreatDoor

namespace Go.Proofs.YtalaldfgjgpacaaGreatDoor
set_option linter.unusedVariables false
set_option linter.unusedSimpArgs false
open Go.RowKit
attribute [local go_sem ↓] Go.wp_at_zero Go.wp_at_succ

/-- What the document's Read answers. -/
structure ReadRes (l : Bs) (w : World) (e : Ending) (w' : World) : Prop where
  bl : Blw w w'
  h : (∃ a b D E, e = .returned (.tuple #[.agg #[a, b], .bool true]) ∧ Ls w' 0 a D ∧ Ls w' 0 b E ∧ Good l D E) ∨ (e = .returned (.tuple #[.agg #[.slice none 0 0, .slice none 0 0], .bool false]) ∧ ∀ D E, ¬ Good l D E)

/-- The answer's box behind a refusal. -/
theorem RD.out {w wr : World} {a b u : Value} {D E U : List Bs} (h : RD w wr a b u D E U) : ((wr.setCell ⟨w.heap.size, 0, none⟩ (.slice none 0 0)).setCell ⟨w.heap.size, 1, none⟩ (.slice none 0 0)).cell? ⟨w.heap.size, 0, none⟩ = some (.slice none 0 0) ∧
    ((wr.setCell ⟨w.heap.size, 0, none⟩ (.slice none 0 0)).setCell ⟨w.heap.size, 1, none⟩ (.slice none 0 0)).cell? ⟨w.heap.size, 1, none⟩ = some (.slice none 0 0) ∧ Blw w ((wr.setCell ⟨w.heap.size, 0, none⟩ (.slice none 0 0)).setCell ⟨w.heap.size, 1, none⟩ (.slice none 0 0)) := by
  have k := heap_setCell_self (o := 1) (heap_setCell_self (o := 0) h.r (.slice none 0 0)) (.slice none 0 0)
  exact ⟨blk_cell k 0, blk_cell k 1, (h.bl.sc _ _ _ (Nat.le_refl _)).sc _ _ _ (Nat.le_refl _)⟩

theorem RD.fin {w wr : World} {a b u : Value} {D E U : List Bs} (h : RD w wr a b u D E U) : ((wr.setCell ⟨w.heap.size, 0, none⟩ a).setCell ⟨w.heap.size, 1, none⟩ b).cell? ⟨w.heap.size, 0, none⟩ = some a ∧
    ((wr.setCell ⟨w.heap.size, 0, none⟩ a).setCell ⟨w.heap.size, 1, none⟩ b).cell? ⟨w.heap.size, 1, none⟩ = some b ∧ Blw w ((wr.setCell ⟨w.heap.size, 0, none⟩ a).setCell ⟨w.heap.size, 1, none⟩ b) ∧
    Ls ((wr.setCell ⟨w.heap.size, 0, none⟩ a).setCell ⟨w.heap.size, 1, none⟩ b) 0 a D ∧ Ls ((wr.setCell ⟨w.heap.size, 0, none⟩ a).setCell ⟨w.heap.size, 1, none⟩ b) 0 b E := by
  have k := heap_setCell_self (o := 1) (heap_setCell_self (o := 0) h.r a) b
  exact ⟨blk_cell k 0, blk_cell k 1, (h.bl.sc _ _ _ (Nat.le_refl _)).sc _ _ _ (Nat.le_refl _), (sc_ls (sc_ls h.la (by omega)) (by omega)).weak (Nat.zero_le _), (sc_ls (sc_ls h.lb (by omega)) (by omega)).weak (Nat.zero_le _)⟩

theorem seven (l : Bs) (h : l.length = 7) : ∃ c0 c1 c2 c3 c4 c5 c6, l = [c0, c1, c2, c3, c4, c5, c6] := by
  match l, h with
  | [c0, c1, c2, c3, c4, c5, c6], _ => exact ⟨c0, c1, c2, c3, c4, c5, c6, rfl⟩
theorem bool_of (p : Prop) : ∃ t : Bool, t = true ↔ p := by
  by_cases h : p
  · exact ⟨true, by simp [h]⟩
  · exact ⟨false, by simp [h]⟩
theorem last_iff (L : List Bs) (d : Bs) (k : Nat) (hk : L.length = k + 1) : lastLt L d ↔ L.getD k [] < d := by
  have e : L.getLastD [] = L.getD k [] := by
    rw [List.getLastD_eq_getLast?, List.getLast?_eq_getElem?, hk, List.getD_eq_getElem?_getD]; simp
  unfold lastLt
  rw [e]
  constructor
  · rintro (h | h)
    · rw [h] at hk; simp at hk
    · exact h
  · exact .inr

set_option maxRecDepth 100000 in
set_option maxHeartbeats 8000000 in
theorem rread_any (l : Bs) (w : World) (hl : l.length ≤ 100000) :
    Calls Tryz.prog 107 #[.string ⟨l.toArray⟩] w fun e w' => ReadRes l w e w' := by
  obtain ⟨y, hy⟩ : ∃ y : ByteArray, y = ⟨l.toArray⟩ := ⟨_, rfl⟩
  have hys : y.size = l.length := by rw [hy, bs_size]
  have HX : Hid (∀ i j, y.extract i j = ByteArray.mk ((l.drop i).take (j - i)).toArray) := by rw [hy]; exact fun i j => bs_extract l i j
  have HBy : Hid (∀ k (hk : k < y.size), y[k]'hk = l.getD k 0) := by
    show ∀ k (hk : k < y.size), y[k]'hk = l.getD k 0
    subst hy; exact byte_at l
  have HYS := hid hys
  have hl' : y.size ≤ 100000 := by omega
  rw [← hy]
  obtain ⟨i0, hi, hz0, hz1, hz2⟩ := info_parts infoS
  clear hy hys hl
  go_enter Tryz.func107, Tryz.ntmps107
  go_wp2
  go_loopw [5] (fun i wr => ∃ (D : List Bs) (a : Value) (m : Nat), i = .int .i64 (m : Int) ∧ Hid (m = 2 * D.length) ∧ m ≤ y.size ∧ RD w wr a (.slice none 0 0) (.slice none 0 0) D [] [] ∧ DSt l D) (fun i _ => y.size - (intOf i).toNat)
  case atStart => exact ⟨[], .slice none 0 0, 0, rfl, rfl, by omega, RD.start w, DSt.zero l⟩
  case round =>
    obtain ⟨D, a, m, rfl, HM, hm, hR, hD⟩ := hrel
    obtain ⟨ao, ca, rfl, hop⟩ := hR.la.op
    have OP := hid hop
    have e0 : wr.cell? ⟨w.heap.size + 1, 0, none⟩ = some (.slice ao D.length ca) := blk_cell hR.p 0
    have hdl : D.length ≤ 100000 := by have := HM.out; omega
    have hsz := hR.bl.sz
    have hpb := lt_of_blk hR.p
    have R := hid hR
    have S := hid hD
    have rp := hR.r
    have r0 : wr.cell? ⟨w.heap.size, 0, none⟩ = some (.slice none 0 0) := blk_cell rp 0
    have r1 : wr.cell? ⟨w.heap.size, 1, none⟩ = some (.slice none 0 0) := blk_cell rp 1
    have f0 := blk_frozen rp 0
    have f1 := blk_frozen rp 1
    have OUT := hid hR.out
    clear hR hD rp hop
    by_cases hlt : m < y.size
    · have hb256 := (y[m]).toNat_lt
      have HE := hid (HBy.out m hlt)
      by_cases h59 : ((y[m]).toNat : Int) = 59
      · have h59' : (((y[m]).toNat : Int) != 59) = false := by simpa using h59
        have hmy : ¬ (y.size ≤ m) := by omega
        have ES0 : Hid (ESt l D []) := by
          have e := HM.out
          refine S.out.semi (by rw [← e, ← HYS.out]; exact hlt) ?_
          rw [← e, ← HE.out]
          apply UInt8.toNat_inj.1
          show y[m].toNat = 59
          omega
        have H0 := hid (And.intro R.out (show Hid (m + 1 = 2 * D.length + 1 + 7 * ([] : List Bs).length) by have := HM.out; show m + 1 = _; simp; omega))
        go_wp2
        clear r0 r1 f0 f1 OUT h59 h59' hb256 HE e0 S R HM hdl hsz hpb
        go_loopw [5, 7] (fun i u wr => ∃ (E : List Bs) (b : Value) (q : Nat), i = .int .i64 (q : Int) ∧ Hid (q = 2 * D.length + 1 + 7 * E.length) ∧ q ≤ y.size ∧ RD w wr (.slice ao D.length ca) b u D E (E.map dotOf) ∧ ESt l D E) (fun i _ _ => y.size - (intOf i).toNat)
        case atStart => exact ⟨[], .slice none 0 0, m + 1, by go_num, H0.out.2, by omega, H0.out.1, ES0.out⟩
        case round =>
          clear ES0 H0
          obtain ⟨E, b, q, rfl, HQ, hq, hR, hE⟩ := hrel
          obtain ⟨bo, cb, rfl, hbop⟩ := hR.lb.op
          obtain ⟨uo, cu, hu, _⟩ := hR.lu.op
          rw [List.length_map] at hu
          subst hu
          have BOP := hid hbop
          have e0 : wr.cell? ⟨w.heap.size + 1, 0, none⟩ = some (.slice ao D.length ca) := blk_cell hR.p 0
          have e1 : wr.cell? ⟨w.heap.size + 1, 1, none⟩ = some (.slice bo E.length cb) := blk_cell hR.p 1
          have hdl : D.length ≤ 100000 := by have := HQ.out; omega
          have hel : E.length ≤ 100000 := by have := HQ.out; omega
          have hsz := hR.bl.sz
          have hpb := lt_of_blk hR.p
          have R := hid hR
          have S := hid hE
          have r0 : wr.cell? ⟨w.heap.size, 0, none⟩ = some (.slice none 0 0) := blk_cell hR.r 0
          have r1 : wr.cell? ⟨w.heap.size, 1, none⟩ = some (.slice none 0 0) := blk_cell hR.r 1
          have f0 := blk_frozen hR.r 0
          have f1 := blk_frozen hR.r 1
          have OUT := hid hR.out
          have FIN := hid hR.fin
          clear hR hE hbop
          by_cases hlq : q < y.size
          · obtain ⟨ee, hee⟩ : ∃ ee, ee = (l.drop q).take 7 := ⟨_, rfl⟩
            have NEXT : Hid (∀ D' E', Good l D' E' → q + 7 ≤ l.length ∧ entG ee ∧ lastLt E ee ∧ dotOf ee ∈ D ∧ dotOf ee ∉ E.map dotOf) := by
              intro D' E' g
              have e := HQ.out
              have := S.out.good_next (by rw [← e, ← HYS.out]; exact hlq) g
              rw [← e, ← hee] at this
              exact ⟨this.1, this.2.1, this.2.2.1, this.2.2.2.1, this.2.2.2.2.1⟩
            by_cases h7 : q + 7 ≤ y.size
            · have g7 : ¬ ((y.size : Int) < (q : Int) + 7) := by omega
              have hel7 : ee.length = 7 := by rw [hee]; have := HYS.out; simp; omega
              have HX1 : Hid (y.extract q (q + 7) = ByteArray.mk ee.toArray) := by show _ = _; rw [HX.out q (q + 7), hee, show q + 7 - q = 7 by omega]
              have NX : Hid (entG ee → lastLt E ee → hasL D (dotOf ee) = true → hasL (E.map dotOf) (dotOf ee) = false → ESt l D (E ++ [ee])) := by
                intro hg h1 h2 h3
                have e := HQ.out
                have := S.out.next (by rw [← e, ← HYS.out]; exact h7) (by rw [← e, ← hee]; exact hg) (by rw [← e, ← hee]; exact h1) (by rw [← e, ← hee]; exact (hasL_iff _ _).1 h2) (by rw [← e, ← hee]; exact (hasL_not _ _).1 h3)
                rw [← e, ← hee] at this
                exact this
              have HMAP : Hid ((E ++ [ee]).map dotOf = E.map dotOf ++ [dotOf ee]) := by show _ = _; simp
              obtain ⟨c0, c1, c2, c3, c4, c5, c6, hc⟩ := seven ee hel7
              obtain ⟨t, ht⟩ := bool_of (entB c0 c1 c2 c3 c4 c5 c6)
              have HEn : Hid (∀ wx, Calls Tryz.prog 148 #[.string ⟨ee.toArray⟩] wx fun e w' => e = .returned (.bool t) ∧ w' = wx) := by
                intro wx; rw [hc]; exact rentry7 c0 c1 c2 c3 c4 c5 c6 t wx ht
              have HEG : Hid (t = true ↔ entG ee) := by show _ ↔ _; rw [hc, entG_iff]; exact ht
              have HDt := hid (fun wx => dot_any ee wx hel7)
              clear ht hc c0 c1 c2 c3 c4 c5 c6 hee hel7
              generalize dotOf ee = dd at *
              unfold strV at HDt
              have s0 : (0 : Int) ≤ (q : Int) := Int.natCast_nonneg _
              have s1 : (q : Int) ≤ (q : Int) + 7 := by omega
              have s2 : (q : Int) + 7 ≤ (y.size : Int) := by omega
              have s3 : ((q : Int) + 7).toNat = q + 7 := by omega
              have s4 : (0 : Int) ≤ (q : Int) + 7 := by omega
              have s5 : IntKind.i64.wrap ((q : Int) + 7) = (q : Int) + 7 := by rw [IntKind.wrap_i64]; omega
              go_upto_region 19 with fail
              rw [HX1.out]
              go_wp2_with fail
              refine (HEn.out _).mono ?_
              rintro e w2 ⟨rfl, hw2⟩
              subst w2
              clear s0 s1 s2 s3 s4 s5 g7 HX1 HEn
              cases t
              · have FAIL : Hid (∀ D' E', ¬ Good l D' E') := fun D' E' g => by have := HEG.out.2 (NEXT.out D' E' g).2.1; cases this
                go_wp2
                generalize (wr.setCell ⟨w.heap.size, 0, none⟩ (.slice none 0 0)).setCell ⟨w.heap.size, 1, none⟩ (.slice none 0 0) = wz at *
                have o0 := OUT.out.1
                have o1 := OUT.out.2.1
                exact bodyPost_ret (v := .tuple #[.agg #[.slice none 0 0, .slice none 0 0], .bool false]) (by simp [results, Tryz.results107, go_sem, o0, o1]) rfl ⟨OUT.out.2.2, .inr ⟨rfl, FAIL.out⟩⟩
              · have GE := hid (HEG.out.1 rfl)
                by_cases hE0 : E.length = 0
                · have LT : Hid (lastLt E ee) := .inl (List.eq_nil_of_length_eq_zero hE0)
                  have hE0' : decide (0 < E.length) = false := by rw [decide_eq_false_iff_not]; omega
                  have HE0 := hid hE0
                  clear hE0
                  go_wp2_with fail
                  refine (HDt.out _).mono ?_
                  rintro e w2 ⟨rfl, hw2⟩
                  subst w2
                  go_wp2_with fail
                  refine (has_any D dd _ 0 _ (R.out.la.weak (Nat.zero_le _)) (by omega)).mono ?_
                  rintro e w2 ⟨rfl, hw2⟩
                  subst w2
                  go_wp2_with fail
                  refine (has_any (E.map dotOf) dd _ 0 _ (R.out.lu.weak (Nat.zero_le _)) (by rw [List.length_map]; omega)).mono ?_
                  rintro e w2 ⟨rfl, hw2⟩
                  subst w2
                  cases hth : hasL D dd
                  · have FAIL : Hid (∀ D' E', ¬ Good l D' E') := fun D' E' g => by
                      have := (hasL_iff _ _).2 (NEXT.out D' E' g).2.2.2.1
                      rw [hth] at this; cases this
                    go_wp2
                    generalize (wr.setCell ⟨w.heap.size, 0, none⟩ (.slice none 0 0)).setCell ⟨w.heap.size, 1, none⟩ (.slice none 0 0) = wz at *
                    have o0 := OUT.out.1
                    have o1 := OUT.out.2.1
                    exact bodyPost_ret (v := .tuple #[.agg #[.slice none 0 0, .slice none 0 0], .bool false]) (by simp [results, Tryz.results107, go_sem, o0, o1]) rfl ⟨OUT.out.2.2, .inr ⟨rfl, FAIL.out⟩⟩
                  · cases htw : hasL (E.map dotOf) dd
                    · have TH := hid hth
                      have TW := hid htw
                      go_wp2_with (first | (at_builtin; refine wpList_append_own_at _ rfl _ _ 34 rfl (w.heap.size + 2) 9 i0 (.string ⟨#[]⟩) 1 16 Tryz.underlying34 hi hz0 hz1 hz2 rfl (by decide) _ (E.map dotOf).length _ rfl (World.ownsRow.alloc R.out.lu _) ⟨wr.heap.size, 0, none⟩ 1 1 [strV dd] rfl rfl (one_cell_at _ _ _) (one_cell_one dd) (by unfold maxLen; rw [List.length_map]; omega) (by rw [List.length_map]; omega) (by simp; omega) ?_))
                      intro v' w1 ho' hgr _ hat
                      have RA := hid (R.out.on ((Blw.rfl wr).al (.cells #[strV dd] 9)))
                      have LS := Ls.snoc (L := E.map dotOf) (x := dd) (by rw [List.length_map]; exact ho')
                      obtain ⟨vo, vc, hv, _⟩ := LS.op
                      rw [show (E.map dotOf ++ [dd]).length = E.length + 1 by simp] at hv
                      subst hv
                      have RU := hid (RA.out.growU hgr LS (hat.imp id (fun e => ⟨_, e, by simp⟩)))
                      have e1' : w1.cell? ⟨w.heap.size + 1, 1, none⟩ = some (.slice bo E.length cb) := blk_cell RU.out.p 1
                      have hpb1 := lt_of_blk RU.out.p
                      clear ho' hgr hat LS RA
                      go_wp2_with (first | (at_builtin; refine wpList_append_own_at _ rfl _ _ 34 rfl (w.heap.size + 2) 9 i0 (.string ⟨#[]⟩) 1 16 Tryz.underlying34 hi hz0 hz1 hz2 rfl (by decide) _ _ _ rfl (World.ownsRow.alloc RU.out.lb _) ⟨w1.heap.size, 0, none⟩ 1 1 [strV ee] rfl rfl (one_cell_at _ _ _) (one_cell_one ee) (by unfold maxLen; omega) (by omega) (by simp; omega) ?_))
                      intro v' w2 ho' hgr _ hat
                      have RB := hid (RU.out.on ((Blw.rfl w1).al (.cells #[strV ee] 9)))
                      have LS := Ls.snoc ho'
                      obtain ⟨bo2, bc2, hv, _⟩ := LS.op
                      rw [show (E ++ [ee]).length = E.length + 1 by simp] at hv
                      subst hv
                      have gp := (RB.out.grown (v' := .slice none 0 0) RB.out.lb hgr).2.1
                      have e3 : w2.cell? ⟨w.heap.size + 1, 1, none⟩ = some (.slice bo E.length cb) := blk_cell gp 1
                      have f3 := blk_frozen gp 1
                      have R1 := hid (RB.out.growB hgr LS (hat.imp id (fun e => ⟨_, e, by simp⟩)))
                      rw [← HMAP.out] at R1
                      clear ho' hgr hat gp LS RB RU e1'
                      go_wp2
                      go_roundw
                      case rel => exact ⟨E ++ [ee], _, q + 7, by go_num, by have := HQ.out; show q + 7 = 2 * D.length + 1 + 7 * (E ++ [ee]).length; rw [List.length_append]; simp; omega, by omega, R1.out, NX.out GE.out LT.out TH.out TW.out⟩
                      case measure => simp [intOf]; omega
                    · have FAIL : Hid (∀ D' E', ¬ Good l D' E') := fun D' E' g => by
                        have := (hasL_iff _ _).1 htw
                        exact (NEXT.out D' E' g).2.2.2.2 this
                      go_wp2
                      generalize (wr.setCell ⟨w.heap.size, 0, none⟩ (.slice none 0 0)).setCell ⟨w.heap.size, 1, none⟩ (.slice none 0 0) = wz at *
                      have o0 := OUT.out.1
                      have o1 := OUT.out.2.1
                      exact bodyPost_ret (v := .tuple #[.agg #[.slice none 0 0, .slice none 0 0], .bool false]) (by simp [results, Tryz.results107, go_sem, o0, o1]) rfl ⟨OUT.out.2.2, .inr ⟨rfl, FAIL.out⟩⟩
                · obtain ⟨g, rfl, hg, hc⟩ := BOP.out (by omega)
                  obtain ⟨k, hk⟩ : ∃ k, E.length = k + 1 := ⟨E.length - 1, by omega⟩
                  have hck := hc k (by omega)
                  have HLI := hid (last_iff E ee k hk)
                  have hE0' : 0 < E.length := by omega
                  have hkI : ((E.length : Int) - 1).toNat = k := by omega
                  have hkJ : (E.length : Int) - 1 = (k : Int) := by omega
                  have hk2 : k < E.length := by omega
                  have HKK := hid hk
                  clear hc hk hE0
                  generalize E.getD k [] = x at *
                  unfold strV at hck
                  cases hx : decide (x < ee)
                  · have hx' : Op.bytesLess x ee = false := by rw [str_less]; exact hx
                    have FAIL : Hid (∀ D' E', ¬ Good l D' E') := fun D' E' g => by
                      have := HLI.out.1 (NEXT.out D' E' g).2.2.1
                      rw [decide_eq_false_iff_not] at hx; exact hx this
                    go_wp2
                    generalize (wr.setCell ⟨w.heap.size, 0, none⟩ (.slice none 0 0)).setCell ⟨w.heap.size, 1, none⟩ (.slice none 0 0) = wz at *
                    have o0 := OUT.out.1
                    have o1 := OUT.out.2.1
                    exact bodyPost_ret (v := .tuple #[.agg #[.slice none 0 0, .slice none 0 0], .bool false]) (by simp [results, Tryz.results107, go_sem, o0, o1]) rfl ⟨OUT.out.2.2, .inr ⟨rfl, FAIL.out⟩⟩
                  · have hx' : Op.bytesLess x ee = true := by rw [str_less]; exact hx
                    have LT : Hid (lastLt E ee) := HLI.out.2 (by simpa using hx)
                    clear hx
                    go_wp2_with fail
                    refine (HDt.out _).mono ?_
                    rintro e w2 ⟨rfl, hw2⟩
                    subst w2
                    go_wp2_with fail
                    refine (has_any D dd _ 0 _ (R.out.la.weak (Nat.zero_le _)) (by omega)).mono ?_
                    rintro e w2 ⟨rfl, hw2⟩
                    subst w2
                    go_wp2_with fail
                    refine (has_any (E.map dotOf) dd _ 0 _ (R.out.lu.weak (Nat.zero_le _)) (by rw [List.length_map]; omega)).mono ?_
                    rintro e w2 ⟨rfl, hw2⟩
                    subst w2
                    cases hth : hasL D dd
                    · have FAIL : Hid (∀ D' E', ¬ Good l D' E') := fun D' E' g => by
                        have := (hasL_iff _ _).2 (NEXT.out D' E' g).2.2.2.1
                        rw [hth] at this; cases this
                      go_wp2
                      generalize (wr.setCell ⟨w.heap.size, 0, none⟩ (.slice none 0 0)).setCell ⟨w.heap.size, 1, none⟩ (.slice none 0 0) = wz at *
                      have o0 := OUT.out.1
                      have o1 := OUT.out.2.1
                      exact bodyPost_ret (v := .tuple #[.agg #[.slice none 0 0, .slice none 0 0], .bool false]) (by simp [results, Tryz.results107, go_sem, o0, o1]) rfl ⟨OUT.out.2.2, .inr ⟨rfl, FAIL.out⟩⟩
                    · cases htw : hasL (E.map dotOf) dd
                      · have TH := hid hth
                        have TW := hid htw
                        go_wp2_with (first | (at_builtin; refine wpList_append_own_at _ rfl _ _ 34 rfl (w.heap.size + 2) 9 i0 (.string ⟨#[]⟩) 1 16 Tryz.underlying34 hi hz0 hz1 hz2 rfl (by decide) _ (E.map dotOf).length _ rfl (World.ownsRow.alloc R.out.lu _) ⟨wr.heap.size, 0, none⟩ 1 1 [strV dd] rfl rfl (one_cell_at _ _ _) (one_cell_one dd) (by unfold maxLen; rw [List.length_map]; omega) (by rw [List.length_map]; omega) (by simp; omega) ?_))
                        intro v' w1 ho' hgr _ hat
                        have RA := hid (R.out.on ((Blw.rfl wr).al (.cells #[strV dd] 9)))
                        have LS := Ls.snoc (L := E.map dotOf) (x := dd) (by rw [List.length_map]; exact ho')
                        obtain ⟨vo, vc, hv, _⟩ := LS.op
                        rw [show (E.map dotOf ++ [dd]).length = E.length + 1 by simp] at hv
                        subst hv
                        have RU := hid (RA.out.growU hgr LS (hat.imp id (fun e => ⟨_, e, by simp⟩)))
                        have e1' : w1.cell? ⟨w.heap.size + 1, 1, none⟩ = some (.slice (some ⟨g, 0, none⟩) E.length cb) := blk_cell RU.out.p 1
                        have hpb1 := lt_of_blk RU.out.p
                        clear ho' hgr hat LS RA
                        go_wp2_with (first | (at_builtin; refine wpList_append_own_at _ rfl _ _ 34 rfl (w.heap.size + 2) 9 i0 (.string ⟨#[]⟩) 1 16 Tryz.underlying34 hi hz0 hz1 hz2 rfl (by decide) _ _ _ rfl (World.ownsRow.alloc RU.out.lb _) ⟨w1.heap.size, 0, none⟩ 1 1 [strV ee] rfl rfl (one_cell_at _ _ _) (one_cell_one ee) (by unfold maxLen; omega) (by omega) (by simp; omega) ?_))
                        intro v' w2 ho' hgr _ hat
                        have RB := hid (RU.out.on ((Blw.rfl w1).al (.cells #[strV ee] 9)))
                        have LS := Ls.snoc ho'
                        obtain ⟨bo2, bc2, hv, _⟩ := LS.op
                        rw [show (E ++ [ee]).length = E.length + 1 by simp] at hv
                        subst hv
                        have gp := (RB.out.grown (v' := .slice none 0 0) RB.out.lb hgr).2.1
                        have e3 : w2.cell? ⟨w.heap.size + 1, 1, none⟩ = some (.slice (some ⟨g, 0, none⟩) E.length cb) := blk_cell gp 1
                        have f3 := blk_frozen gp 1
                        have R1 := hid (RB.out.growB hgr LS (hat.imp id (fun e => ⟨_, e, by simp⟩)))
                        rw [← HMAP.out] at R1
                        clear ho' hgr hat gp LS RB RU e1'
                        go_wp2
                        go_roundw
                        case rel => exact ⟨E ++ [ee], _, q + 7, by go_num, by have := HQ.out; show q + 7 = 2 * D.length + 1 + 7 * (E ++ [ee]).length; rw [List.length_append]; simp; omega, by omega, R1.out, NX.out GE.out LT.out TH.out TW.out⟩
                        case measure => simp [intOf]; omega
                      · have FAIL : Hid (∀ D' E', ¬ Good l D' E') := fun D' E' g => by
                          have := (hasL_iff _ _).1 htw
                          exact (NEXT.out D' E' g).2.2.2.2 this
                        go_wp2
                        generalize (wr.setCell ⟨w.heap.size, 0, none⟩ (.slice none 0 0)).setCell ⟨w.heap.size, 1, none⟩ (.slice none 0 0) = wz at *
                        have o0 := OUT.out.1
                        have o1 := OUT.out.2.1
                        exact bodyPost_ret (v := .tuple #[.agg #[.slice none 0 0, .slice none 0 0], .bool false]) (by simp [results, Tryz.results107, go_sem, o0, o1]) rfl ⟨OUT.out.2.2, .inr ⟨rfl, FAIL.out⟩⟩
            · have FAIL : Hid (∀ D' E', ¬ Good l D' E') := fun D' E' g => by have := (NEXT.out D' E' g).1; have := HYS.out; omega
              have g7 : (y.size : Int) < (q : Int) + 7 := by omega
              go_wp2
              generalize (wr.setCell ⟨w.heap.size, 0, none⟩ (.slice none 0 0)).setCell ⟨w.heap.size, 1, none⟩ (.slice none 0 0) = wz at *
              have o0 := OUT.out.1
              have o1 := OUT.out.2.1
              exact bodyPost_ret (v := .tuple #[.agg #[.slice none 0 0, .slice none 0 0], .bool false]) (by simp [results, Tryz.results107, go_sem, o0, o1]) rfl ⟨OUT.out.2.2, .inr ⟨rfl, FAIL.out⟩⟩
          · have HG := hid (S.out.done (by rw [← HQ.out, ← HYS.out]; omega))
            go_wp2
            generalize (wr.setCell ⟨w.heap.size, 0, none⟩ (.slice ao D.length ca)).setCell ⟨w.heap.size, 1, none⟩ (.slice bo E.length cb) = wz at *
            have o0 := FIN.out.1
            have o1 := FIN.out.2.1
            exact bodyPost_ret (v := .tuple #[.agg #[.slice ao D.length ca, .slice bo E.length cb], .bool true]) (by simp [results, Tryz.results107, go_sem, o0, o1]) rfl ⟨FIN.out.2.2.1, .inl ⟨_, _, D, E, rfl, FIN.out.2.2.2.1, FIN.out.2.2.2.2, HG.out⟩⟩
      · have h59' : (((y[m]).toNat : Int) != 59) = true := by simpa using h59
        have hn59 : Hid (l.getD m 0 ≠ 59) := by
          intro e
          rw [← HE.out] at e
          exact h59 (by rw [e]; rfl)
        have NEXT : Hid (∀ D' E', Good l D' E' → m + 2 ≤ l.length ∧ dotG [l.getD m 0, l.getD (m + 1) 0] ∧ lastLt D [l.getD m 0, l.getD (m + 1) 0]) := by
          intro D' E' g
          have e := HM.out
          have := S.out.good_next (by rw [← e, ← HYS.out]; exact hlt) (by rw [← e]; exact hn59.out) g
          rw [← e] at this
          exact ⟨this.1, this.2.1, this.2.2.1⟩
        clear h59
        by_cases h2 : m + 2 ≤ y.size
        · have hm1 : m + 1 < y.size := by omega
          have g2 : ¬ ((y.size : Int) < (m : Int) + 2) := by omega
          have HE1 := hid (HBy.out (m + 1) hm1)
          have hb256' := (y[m + 1]).toNat_lt
          have ND : Hid (∀ D' E', Good l D' E' → (48 ≤ (y[m]).toNat ∧ (y[m]).toNat < 51) ∧ (49 ≤ (y[m + 1]).toNat ∧ (y[m + 1]).toNat ≤ 57)) := by
            intro D' E' g
            have := (NEXT.out D' E' g).2.1
            rw [← HE.out, ← HE1.out] at this
            exact (dotG_iff _ _).1 this
          have HRp := hid (fun wx => isReplica_any (y[m]) wx)
          go_wp2_with fail
          refine (HRp.out _).mono ?_
          rintro e w2 ⟨rfl, hw2⟩
          subst w2
          cases hr : isRepB (y[m])
          · have FAIL : Hid (∀ D' E', ¬ Good l D' E') := fun D' E' g => by
              have := (isRepB_iff _).2 (ND.out D' E' g).1
              rw [hr] at this; cases this
            go_wp2
            generalize (wr.setCell ⟨w.heap.size, 0, none⟩ (.slice none 0 0)).setCell ⟨w.heap.size, 1, none⟩ (.slice none 0 0) = wz at *
            have o0 := OUT.out.1
            have o1 := OUT.out.2.1
            exact bodyPost_ret (v := .tuple #[.agg #[.slice none 0 0, .slice none 0 0], .bool false]) (by simp [results, Tryz.results107, go_sem, o0, o1]) rfl ⟨OUT.out.2.2, .inr ⟨rfl, FAIL.out⟩⟩
          · have hr' := hid ((isRepB_iff _).1 hr)
            by_cases c1 : ((y[m + 1]).toNat : Int) < 49
            · have FAIL : Hid (∀ D' E', ¬ Good l D' E') := fun D' E' g => by have := (ND.out D' E' g).2; omega
              go_wp2
              generalize (wr.setCell ⟨w.heap.size, 0, none⟩ (.slice none 0 0)).setCell ⟨w.heap.size, 1, none⟩ (.slice none 0 0) = wz at *
              have o0 := OUT.out.1
              have o1 := OUT.out.2.1
              exact bodyPost_ret (v := .tuple #[.agg #[.slice none 0 0, .slice none 0 0], .bool false]) (by simp [results, Tryz.results107, go_sem, o0, o1]) rfl ⟨OUT.out.2.2, .inr ⟨rfl, FAIL.out⟩⟩
            · by_cases c2 : (57 : Int) < ((y[m + 1]).toNat : Int)
              · have FAIL : Hid (∀ D' E', ¬ Good l D' E') := fun D' E' g => by have := (ND.out D' E' g).2; omega
                go_wp2
                generalize (wr.setCell ⟨w.heap.size, 0, none⟩ (.slice none 0 0)).setCell ⟨w.heap.size, 1, none⟩ (.slice none 0 0) = wz at *
                have o0 := OUT.out.1
                have o1 := OUT.out.2.1
                exact bodyPost_ret (v := .tuple #[.agg #[.slice none 0 0, .slice none 0 0], .bool false]) (by simp [results, Tryz.results107, go_sem, o0, o1]) rfl ⟨OUT.out.2.2, .inr ⟨rfl, FAIL.out⟩⟩
              · have GD : Hid (dotG [y[m], y[m + 1]]) := (dotG_iff _ _).2 ⟨hr'.out, by omega, by omega⟩
                have HX1 : Hid (y.extract m (m + 2) = ByteArray.mk [y[m], y[m + 1]].toArray) := by
                  show _ = _
                  rw [HX.out m (m + 2), show m + 2 - m = 2 by omega, drop_cons (show m < l.length by rw [← HYS.out]; exact hlt), drop_cons (show m + 1 < l.length by rw [← HYS.out]; exact hm1), HE.out, HE1.out]
                  rfl
                have s0 : (0 : Int) ≤ (m : Int) := Int.natCast_nonneg _
                have s1 : (m : Int) ≤ (m : Int) + 2 := by omega
                have s2 : (m : Int) + 2 ≤ (y.size : Int) := by omega
                have s3 : ((m : Int) + 2).toNat = m + 2 := by omega
                have s4 : (0 : Int) ≤ (m : Int) + 2 := by omega
                have s5 : IntKind.i64.wrap ((m : Int) + 2) = (m : Int) + 2 := by rw [IntKind.wrap_i64]; omega
                go_upto_region 7 with fail
                rw [HX1.out]
                have NX : Hid (lastLt D [y[m], y[m + 1]] → DSt l (D ++ [[y[m], y[m + 1]]])) := by
                  intro hlast
                  have e := HM.out
                  have := S.out.next (by rw [← e, ← HYS.out]; exact h2) (by rw [← e]; exact hn59.out) (by rw [← e, ← HE.out, ← HE1.out]; exact GD.out) (by rw [← e, ← HE.out, ← HE1.out]; exact hlast)
                  rw [← e, ← HE.out, ← HE1.out] at this
                  exact this
                have NL : Hid (∀ D' E', Good l D' E' → lastLt D [y[m], y[m + 1]]) := by
                  intro D' E' g
                  have := (NEXT.out D' E' g).2.2
                  rw [← HE.out, ← HE1.out] at this; exact this
                clear hr g2 c1 c2 s0 s1 s2 s3 s4 s5 hb256' hb256 h59' HX1 GD ND NEXT hr'
                generalize [y[m], y[m + 1]] = d at *
                by_cases hd0 : D.length = 0
                · have hDn : D = [] := List.eq_nil_of_length_eq_zero hd0
                  have LT := hid (show lastLt D d from .inl hDn)
                  subst hDn
                  clear hd0
                  go_wp2_with (first | (at_builtin; refine wpList_append_own_at _ rfl _ _ 34 rfl (w.heap.size + 2) 9 i0 (.string ⟨#[]⟩) 1 16 Tryz.underlying34 hi hz0 hz1 hz2 rfl (by decide) _ _ _ rfl (World.ownsRow.alloc R.out.la _) ⟨wr.heap.size, 0, none⟩ 1 1 [strV d] rfl rfl (one_cell_at _ _ _) (one_cell_one d) (by unfold maxLen; omega) (by omega) (by simp; omega) ?_))
                  intro v' w1 ho' hgr _ hat
                  have RA := hid (R.out.on ((Blw.rfl wr).al (.cells #[strV d] 9)))
                  have LS := Ls.snoc ho'
                  obtain ⟨vo, vc, hv, _⟩ := LS.op
                  rw [show (([] : List Bs) ++ [d]).length = 1 by simp] at hv
                  subst hv
                  have gp := (RA.out.grown (v' := .slice none 0 0) RA.out.la hgr).2.1
                  have e3 : w1.cell? ⟨w.heap.size + 1, 0, none⟩ = some (.slice ao ([] : List Bs).length ca) := blk_cell gp 0
                  have f3 := blk_frozen gp 0
                  have R1 := hid (RA.out.growA hgr LS (hat.imp id (fun e => ⟨_, e, by simp⟩)))
                  clear ho' hgr hat gp LS
                  go_wp2
                  go_roundw
                  case rel => exact ⟨([] : List Bs) ++ [d], _, m + 2, by go_num, by have := HM.out; show m + 2 = 2 * (([] : List Bs) ++ [d]).length; rw [List.length_append]; simp at *; omega, by omega, R1.out, NX.out LT.out⟩
                  case measure => simp [intOf]; omega
                · obtain ⟨g, rfl, hg, hc⟩ := OP.out (by omega)
                  obtain ⟨k, hk⟩ : ∃ k, D.length = k + 1 := ⟨D.length - 1, by omega⟩
                  have hck := hc k (by omega)
                  have HLt : Hid (∀ hlt : D.getD k [] < d, lastLt D d) := by
                    intro hlt
                    right
                    have hne : D ≠ [] := fun e => hd0 (by rw [e]; rfl)
                    have : D.getLastD [] = D.getD k [] := by
                      rw [List.getLastD_eq_getLast?, List.getLast?_eq_getElem?, hk, List.getD_eq_getElem?_getD]; simp
                    rw [this]; exact hlt
                  have HGt : Hid (lastLt D d → D.getD k [] < d) := by
                    rintro (e | e)
                    · exact absurd (by rw [e]; rfl) hd0
                    · have : D.getLastD [] = D.getD k [] := by
                        rw [List.getLastD_eq_getLast?, List.getLast?_eq_getElem?, hk, List.getD_eq_getElem?_getD]; simp
                      rw [← this]; exact e
                  have hd0' : 0 < D.length := by omega
                  have hkI : ((D.length : Int) - 1).toNat = k := by omega
                  have hkJ : (D.length : Int) - 1 = (k : Int) := by omega
                  have hk2 : k < D.length := by omega
                  have HKK := hid hk
                  clear hc hk hd0
                  generalize D.getD k [] = x at *
                  unfold strV at hck
                  cases hx : decide (x < d)
                  · have hx' : Op.bytesLess x d = false := by rw [str_less]; exact hx
                    have FAIL : Hid (∀ D' E', ¬ Good l D' E') := fun D' E' g => by
                      have := HGt.out (NL.out D' E' g)
                      rw [decide_eq_false_iff_not] at hx; exact hx this
                    go_wp2
                    generalize (wr.setCell ⟨w.heap.size, 0, none⟩ (.slice none 0 0)).setCell ⟨w.heap.size, 1, none⟩ (.slice none 0 0) = wz at *
                    have o0 := OUT.out.1
                    have o1 := OUT.out.2.1
                    exact bodyPost_ret (v := .tuple #[.agg #[.slice none 0 0, .slice none 0 0], .bool false]) (by simp [results, Tryz.results107, go_sem, o0, o1]) rfl ⟨OUT.out.2.2, .inr ⟨rfl, FAIL.out⟩⟩
                  · have hx' : Op.bytesLess x d = true := by rw [str_less]; exact hx
                    have LT := hid (HLt.out (by simpa using hx))
                    clear hx
                    go_wp2_with (first | (at_builtin; refine wpList_append_own_at _ rfl _ _ 34 rfl (w.heap.size + 2) 9 i0 (.string ⟨#[]⟩) 1 16 Tryz.underlying34 hi hz0 hz1 hz2 rfl (by decide) _ _ _ rfl (World.ownsRow.alloc R.out.la _) ⟨wr.heap.size, 0, none⟩ 1 1 [strV d] rfl rfl (one_cell_at _ _ _) (one_cell_one d) (by unfold maxLen; omega) (by omega) (by simp; omega) ?_))
                    intro v' w1 ho' hgr _ hat
                    have RA := hid (R.out.on ((Blw.rfl wr).al (.cells #[strV d] 9)))
                    have LS := Ls.snoc ho'
                    obtain ⟨vo, vc, hv, _⟩ := LS.op
                    rw [show (D ++ [d]).length = D.length + 1 by simp] at hv
                    subst hv
                    have gp := (RA.out.grown (v' := .slice none 0 0) RA.out.la hgr).2.1
                    have e3 : w1.cell? ⟨w.heap.size + 1, 0, none⟩ = some (.slice (some ⟨g, 0, none⟩) D.length ca) := blk_cell gp 0
                    have f3 := blk_frozen gp 0
                    have R1 := hid (RA.out.growA hgr LS (hat.imp id (fun e => ⟨_, e, by simp⟩)))
                    clear ho' hgr hat gp LS
                    go_wp2
                    go_roundw
                    case rel => exact ⟨D ++ [d], _, m + 2, by go_num, by have := HM.out; show m + 2 = 2 * (D ++ [d]).length; rw [List.length_append]; simp at *; omega, by omega, R1.out, NX.out LT.out⟩
                    case measure => simp [intOf]; omega
        · have FAIL : Hid (∀ D' E', ¬ Good l D' E') := fun D' E' g => by have := (NEXT.out D' E' g).1; have := HYS.out; omega
          have g2 : (y.size : Int) < (m : Int) + 2 := by omega
          go_wp2
          generalize (wr.setCell ⟨w.heap.size, 0, none⟩ (.slice none 0 0)).setCell ⟨w.heap.size, 1, none⟩ (.slice none 0 0) = wz at *
          have o0 := OUT.out.1
          have o1 := OUT.out.2.1
          exact bodyPost_ret (v := .tuple #[.agg #[.slice none 0 0, .slice none 0 0], .bool false]) (by simp [results, Tryz.results107, go_sem, o0, o1]) rfl ⟨OUT.out.2.2, .inr ⟨rfl, FAIL.out⟩⟩
    · have FAIL : Hid (∀ D' E', ¬ Good l D' E') := fun D' E' g => S.out.none_end (by rw [← HM.out, ← HYS.out]; omega) D' E' g
      go_wp2
      generalize (wr.setCell ⟨w.heap.size, 0, none⟩ (.slice none 0 0)).setCell ⟨w.heap.size, 1, none⟩ (.slice none 0 0) = wz at *
      have o0 := OUT.out.1
      have o1 := OUT.out.2.1
      exact bodyPost_ret (v := .tuple #[.agg #[.slice none 0 0, .slice none 0 0], .bool false]) (by simp [results, Tryz.results107, go_sem, o0, o1]) rfl ⟨OUT.out.2.2, .inr ⟨rfl, FAIL.out⟩⟩
end Go.Proofs.YtalaldfgjgpacaaGreatDoor
