import Derived.Test.YtalaldfgjgpacaaGreatDoorP1
import Derived.Test.YtalaldfgjgpacaaGreatDoorUA
import Derived.BigQuiet
namespace Go.Proofs.YtalaldfgjgpacaaGreatDoor
set_option linter.unusedVariables false
set_option linter.unusedSimpArgs false
open Go.RowKit
attribute [local go_sem ↓] Go.wp_at_zero Go.wp_at_succ

theorem acks_at (n : Nat) (f : Nat → Nat) (r : Nat) (h : r < n) : (acksA n f)[r]? = some (.int .i64 (f r)) := by
  simp [acksA, h]

/-- One of what the document's replica remembers. -/
theorem Lats.get {w : World} : ∀ {L : List Pc} {ls : List Value}, Lats w L ls → ∀ j (hj : j < L.length), ∃ a b D E, ls[j * 2]? = some a ∧ ls[j * 2 + 1]? = some b ∧ Ls w 0 a D ∧ Ls w 0 b E ∧ RelP (L[j]) D E ∧ (L[j]).fine
  | [], _, _, j, hj => by simp at hj
  | p :: L, _, ⟨a, b, ls', e, ⟨D, E, h1, h2, h3, h4⟩, h5⟩, j, hj => by
    subst e
    cases j with
    | zero => exact ⟨a, b, D, E, rfl, rfl, h1, h2, h3, h4⟩
    | succ j =>
      obtain ⟨a', b', D', E', k1, k2, k⟩ := Lats.get h5 j (by simpa using hj)
      refine ⟨a', b', D', E', ?_, ?_, k⟩
      · rw [show (j + 1) * 2 = j * 2 + 1 + 1 by omega]; exact k1
      · rw [show (j + 1) * 2 + 1 = j * 2 + 1 + 1 + 1 by omega]; exact k2
theorem LateAt.op {w : World} {v : Value} {n : Nat} {ls : List Value} (h : LateAt w v n ls) : ∃ (ao : Option Addr) (cap : Nat), v = .slice ao n cap := by
  rcases h.2 with ⟨rfl, hn⟩ | ⟨g, o, cap, cur, e, _⟩
  · exact ⟨none, 0, by rw [hn]⟩
  · exact ⟨_, _, e⟩
theorem LateAt.get {w : World} {v : Value} {n : Nat} {ls : List Value} (h : LateAt w v n ls) (j : Nat) (hj : j < n) : ∃ g o cap, v = .slice (some ⟨g, o, none⟩) n cap ∧ g < w.heap.size ∧ n ≤ cap ∧ w.cell? ⟨g, o + j * 2, none⟩ = ls[j * 2]? ∧ w.cell? ⟨g, o + j * 2 + 1, none⟩ = ls[j * 2 + 1]? := by
  rcases h.2 with ⟨rfl, hn⟩ | ⟨g, o, cap, cur, e, hg, h1, h2, h3, h4⟩
  · omega
  · refine ⟨g, o, cap, e, lt_of_blk hg, h1, ?_, ?_⟩
    · rw [blk_cell hg, ← h4, List.getElem?_take, if_pos (by omega), List.getElem?_drop]; simp
    · rw [blk_cell hg, ← h4, List.getElem?_take, if_pos (by omega), List.getElem?_drop]; simp [Nat.add_assoc]
theorem late_rev (L : List Pc) (m : Nat) (h1 : 1 ≤ m) (h2 : m ≤ min 4 L.length) (hj : min 4 L.length - m < (L.take 4).reverse.length) : (L.take 4).reverse[min 4 L.length - m] = L.getD (m - 1) Pc.empty := by
  have hl : m - 1 < L.length := by omega
  rw [List.getElem_reverse, List.getElem_take]
  simp only [List.length_take, List.getD_eq_getElem?_getD, List.getElem?_eq_getElem hl, Option.getD_some]
  congr 1; omega

theorem tailJ_fine {L : List Pc} {c : Nat} (hc : c ≤ L.length) (h : ∀ i, i < c → (L.getD i Pc.empty).fine) : ∀ k, k ≤ c → (tailJ L c (c - k)).fine := by
  intro k
  induction k with
  | zero => intro _; rw [tailJ_end _ _ _ (by omega)]; exact fine_empty
  | succ k ih =>
    intro hk
    rw [tailJ_step L c (c - (k + 1)) (by omega) hc, show c - (k + 1) + 1 = c - k by omega]
    exact join_fine (ih (by omega)) (h _ (by omega))
theorem Aside.fine {w : World} {cb n : Nat} {ac : Value} {x : Ext} {ln : Nat} {ls : List Value} (h : Aside w cb n ac x ln ls) (i : Nat) (hi : i < x.kept) : (x.late.getD i Pc.empty).fine := by
  unfold Ext.kept at hi
  have hj : min 4 x.late.length - (i + 1) < (x.late.take 4).reverse.length := by simp; omega
  obtain ⟨_, _, _, _, _, _, _, _, _, hf⟩ := h.lats.get _ hj
  rw [late_rev x.late (i + 1) (by omega) (by omega) hj] at hf
  exact hf
theorem Aside.tail {w : World} {cb n : Nat} {ac : Value} {x : Ext} {ln : Nat} {ls : List Value} (h : Aside w cb n ac x ln ls) (c : Nat) (hc : c ≤ x.kept) (i : Nat) (hi : i ≤ c) : (tailJ x.late c i).fine := by
  have hl : c ≤ x.late.length := Nat.le_trans hc (Nat.min_le_right _ _)
  have := tailJ_fine hl (fun i hi => h.fine i (by omega)) (c - i) (by omega)
  rw [show c - (c - i) = i by omega] at this
  exact this
theorem RefAt.tail {w : World} {cb me n : Nat} {p : Pc} {x : Ext} {lt : Value} (h : RefAt w cb me n p x lt) (c : Nat) (hc : c ≤ x.kept) : (tailJ x.late c 0).fine := by
  obtain ⟨a, b, ac, D, E, ln, ls, h1, h2, h3, h4, h5, h6⟩ := h.h
  exact h5.tail c hc 0 (Nat.zero_le _)

end Go.Proofs.YtalaldfgjgpacaaGreatDoor

namespace Go.Proofs.YtalaldfgjgpacaaGreatDoor
set_option linter.unusedVariables false
set_option linter.unusedSimpArgs false
open Go.RowKit
attribute [local go_sem ↓] Go.wp_at_zero Go.wp_at_succ

/-- On the way through what the document's replica remembers: m are left. -/
structure LateMid (w w3 : World) (x : Ext) (u m : Nat) (wr : World) : Prop where
  o : ∃ va vb D E, wr.heap[w3.heap.size]? = some (.cells #[va, vb] 120) ∧ Ls wr 0 va D ∧ Ls wr 0 vb E ∧ RelP (tailJ x.late u m) D E
  bl : Blw w3 wr
theorem LateMid.step {w w3 : World} {x : Ext} {u m : Nat} {wr w4 : World} {u1 v1 : Value} {D E : List Bs} (h : LateMid w w3 x u m wr) (b4 : Blw wr w4) (h1 : Ls w4 0 u1 D) (h2 : Ls w4 0 v1 E) {k : Nat} (hr : RelP (tailJ x.late u k) D E) :
    LateMid w w3 x u k ((w4.setCell ⟨w3.heap.size, 0, none⟩ u1).setCell ⟨w3.heap.size, 1, none⟩ v1) := by
  obtain ⟨va, vb, D', E', g1, _⟩ := h.o
  have g4 := b4.bq g1
  have g5 := heap_setCell_self (o := 0) g4 u1
  refine ⟨⟨u1, v1, D, E, ?_, (h1.sc g4 (by decide) _).sc g5 (by decide) _, (h2.sc g4 (by decide) _).sc g5 (by decide) _, hr⟩, ((h.bl.tr b4).sc _ _ _ (Nat.le_refl _)).sc _ _ _ (Nat.le_refl _)⟩
  rw [heap_setCell_self g5]; rfl

set_option maxRecDepth 100000 in
set_option maxHeartbeats 4000000 in
theorem rship_no (cb me n : Nat) (a b : Value) (had : Nat) (lt ac : Value) (dk : Bs) (tr : Int) (w : World) (hno : isOth me n tr = false) (h : w.heap[cb]? = some (.cells (refArr me n a b had lt ac dk) 123)) :
    Calls Tryz.prog 57 #[.pointer (some ⟨cb, 0, none⟩), .int .i64 tr] w fun e w' => e = .returned (.tuple #[.string ⟨#[]⟩, .int .i64 1]) ∧ w' = w := by
  have q0 := (ref_n h).1
  have q1 := (ref_n h).2.1
  clear h
  by_cases h1 : tr < 0
  · have d1 : decide (tr < 0) = true := by simpa using h1
    clear hno
    go_enter Tryz.func57, Tryz.ntmps57
    go_wp2
    go_ret2
    exact ⟨rfl, rfl⟩
  · have d1 : decide (tr < 0) = false := by simpa using h1
    by_cases h2 : (n : Int) ≤ tr
    · have d2 : decide ((n : Int) ≤ tr) = true := by simpa using h2
      clear hno
      go_enter Tryz.func57, Tryz.ntmps57
      go_wp2
      go_ret2
      exact ⟨rfl, rfl⟩
    · have d2 : decide ((n : Int) ≤ tr) = false := by simpa using h2
      have h3 : tr = me := by
        simp only [isOth, Bool.and_eq_false_iff, decide_eq_false_iff_not] at hno
        omega
      have d3 : (tr == (me : Int)) = true := by simpa using h3
      clear hno
      go_enter Tryz.func57, Tryz.ntmps57
      go_wp2
      go_ret2
      exact ⟨rfl, rfl⟩

set_option maxRecDepth 100000 in
set_option maxHeartbeats 8000000 in
theorem rship_yes (cb me n r : Nat) (p : Pc) (x : Ext) (lt : Value) (ao : Nat) (w : World) (hR : RefAt w cb me n p x lt) (hp : p.fine) (hn : n ≤ 3) (hme : me < n) (hr : r < n) (hrm : r ≠ me) (hao : ao = x.ack r) (hak : ao ≤ x.had) (hh : x.had < 100) :
    Calls Tryz.prog 57 #[.pointer (some ⟨cb, 0, none⟩), .int .i64 r] w fun e w' => e = .returned (.tuple #[.string ⟨(shipL me p x r ao).toArray⟩, .int .i64 0]) ∧ Blw w w' := by
  have d1 : decide ((r : Int) < 0) = false := by rw [decide_eq_false_iff_not]; omega
  have d2 : decide ((n : Int) ≤ (r : Int)) = false := by rw [decide_eq_false_iff_not]; omega
  have d3 : ((r : Int) == (me : Int)) = false := by rw [beq_eq_false_iff_ne]; omega
  have HD1 := hid (fun wx => digits_any me 1 wx (by omega) (by omega))
  have HD2 := hid (fun wx => digits_any r 1 wx (by omega) (by omega))
  have HD3 := hid (fun wx => digits_any x.had 2 wx (by omega) (by omega))
  rw [show lastD me 1 = [dig me] by simp [lastD, Nat.mod_eq_of_lt (show me < 10 by omega)]] at HD1
  rw [show lastD r 1 = [dig r] by simp [lastD, Nat.mod_eq_of_lt (show r < 10 by omega)]] at HD2
  rw [show lastD x.had 2 = [dig (x.had / 10), dig (x.had % 10)] by simp only [lastD, Nat.pow_zero, Nat.div_one, Nat.pow_one]; rw [Nat.mod_eq_of_lt (show x.had / 10 < 10 by omega)]] at HD3
  obtain ⟨a, b, ac, D, E, ln, ls, h1, h2, h3, h4, h5, h6⟩ := hR.h
  obtain ⟨q0, q1, q2, q3, q4, q5, q6, q7⟩ := ref_n h1
  rw [h5.ac] at q6
  have ca : w.cell? ⟨cb - 1, r, none⟩ = some (.int .i64 ao) := by rw [blk_cell h5.ack, acks_at _ _ _ hr, ← hao]
  obtain ⟨la, lc, hlt⟩ := h4.op
  have HP := hid (h6.pcAt hp.ok h2 h3)
  obtain ⟨ao1, ca1, rfl, -⟩ := h2.op
  obtain ⟨bo1, cb1, rfl, -⟩ := h3.op
  have HWr : Hid (writeL D E = p.text) := h6.write hp.ok
  have htl := text_len' p hp.ok
  have hln := h5.ln
  have hl4 := h5.le
  have HA := hid h5
  have HL := hid h4
  have H := hid h1
  have HSL : Hid (shipL me p x r ao = if x.had = ao then [] else if x.had - ao ≤ x.kept then headL 73 me r x.had ++ (tailJ x.late (x.had - ao) 0).text else headL 70 me r x.had ++ p.text) := rfl
  subst hlt
  clear h1 h2 h3 h4 h5 h6 hR hp hao
  rw [← hln] at HSL
  have HLN := hid hln
  clear hln
  by_cases h0 : x.had = ao
  · have ES : Hid (shipL me p x r ao = []) := by show _ = _; rw [HSL.out, if_pos h0]
    have e0 : (((x.had : Int) - (ao : Int)) == 0) = true := by rw [beq_iff_eq]; omega
    have e1 : (x.had : Int) - (ao : Int) = 0 := by omega
    clear h0 HSL HA HL HP HWr HLN htl hl4 HD1 HD2 HD3 hak
    generalize shipL me p x r ao = sl at *
    generalize x.had = hd at *
    go_enter Tryz.func57, Tryz.ntmps57
    go_wp2_with fail
    go_quiet (fail)
    go_wp2
    go_ret2
    exact ⟨by rw [ES.out]; rfl, Blw.drn (Blw.rfl _) _⟩
  · have e0 : (((x.had : Int) - (ao : Int)) == 0) = false := by rw [beq_eq_false_iff_ne]; omega
    by_cases hk : x.had - ao ≤ ln
    · have dk : decide ((ln : Int) < ((x.had : Int) - (ao : Int))) = false := by simp; omega
      have ES : Hid (shipL me p x r ao = headL 73 me r x.had ++ (tailJ x.late (x.had - ao) 0).text) := by show _ = _; rw [HSL.out, if_neg h0, if_pos hk]
      obtain ⟨u, hu⟩ : ∃ u, u = x.had - ao := ⟨_, rfl⟩
      have HU : Hid ((x.had : Int) - (ao : Int) = (u : Int)) := by show _ = _; omega
      rw [← hu] at ES hk
      have HTF := hid (fun i (hi : i ≤ u) => HA.out.tail u (by have := HLN.out; omega) i hi)
      have htl2 := text_len' _ (HTF.out 0 (Nat.zero_le _)).ok
      have HTJ := hid (fun i (hi : i < u) => tailJ_step x.late u i hi (Nat.le_trans (show u ≤ x.kept by have := HLN.out; omega) (Nat.min_le_right _ _)))
      have HTE := hid (tailJ_end x.late u u (Nat.le_refl _))
      obtain ⟨tx, htx⟩ : ∃ tx, tx = (tailJ x.late u 0).text := ⟨_, rfl⟩
      rw [← htx] at ES htl2
      have HTX := hid htx
      clear HSL h0 htx hu
      obtain ⟨y1, hy1⟩ : ∃ y1, y1 = [(73 : UInt8)] ++ [dig me] := ⟨_, rfl⟩
      obtain ⟨y2, hy2⟩ : ∃ y2, y2 = y1 ++ [dig r] := ⟨_, rfl⟩
      obtain ⟨y3, hy3⟩ : ∃ y3, y3 = y2 ++ [dig (x.had / 10), dig (x.had % 10)] := ⟨_, rfl⟩
      obtain ⟨y4, hy4⟩ : ∃ y4, y4 = y3 ++ tx := ⟨_, rfl⟩
      have t1 : ByteArray.mk #[73] ++ ByteArray.mk [dig me].toArray = ByteArray.mk y1.toArray := by rw [hy1]; exact ByteArray.mk_append_mk [73] [dig me]
      have t2 : ByteArray.mk y1.toArray ++ ByteArray.mk [dig r].toArray = ByteArray.mk y2.toArray := by rw [hy2]; exact ByteArray.mk_append_mk _ _
      have t3 : ByteArray.mk y2.toArray ++ ByteArray.mk [dig (x.had / 10), dig (x.had % 10)].toArray = ByteArray.mk y3.toArray := by rw [hy3]; exact ByteArray.mk_append_mk _ _
      have t4 : ByteArray.mk y3.toArray ++ ByteArray.mk (tx).toArray = ByteArray.mk y4.toArray := by rw [hy4]; exact ByteArray.mk_append_mk _ _
      have k1 : y1.length = 2 := by rw [hy1]; rfl
      have k2 : y2.length = 3 := by rw [hy2]; simp [k1]
      have k3 : y3.length = 5 := by rw [hy3]; simp [k2]
      have EY : Hid (shipL me p x r ao = y4) := by show _ = _; rw [ES.out, hy4, hy3, hy2, hy1]; simp [headL]
      clear hy1 hy2 hy3 hy4
      have HKK := hid hk
      have HT2 := hid htl2
      clear hk htl htl2
      go_enter Tryz.func57, Tryz.ntmps57
      go_wp2_with fail
      go_quiet (fail)
      obtain ⟨w1, hw1⟩ : ∃ w1, w1 = w.drewN nq := ⟨_, rfl⟩
      rw [← hw1]
      have B1 : Hid (Blw w w1) := by show Blw w w1; rw [hw1]; exact Blw.drn (Blw.rfl _) _
      clear hw1 q0 q1 q2 q3 q4 q5 q6 q7 ca
      have m0 := (ref_n (B1.out.bq H.out)).1
      go_wp2_with fail
      refine (HD1.out _).mono ?_
      rintro e w2 ⟨rfl, b2⟩
      have B2 := hid (B1.out.tr b2)
      clear b2 B1 m0
      go_wp2_with fail
      refine (HD2.out _).mono ?_
      rintro e w3 ⟨rfl, b3⟩
      have B3 := hid (B2.out.tr b3)
      clear b3 B2
      have m4 := (ref_n (B3.out.bq H.out)).2.2.2.2.1
      go_wp2_with fail
      refine (HD3.out _).mono ?_
      rintro e w4 ⟨rfl, b4⟩
      have B4 := hid (B3.out.tr b4)
      clear b4 B3 m4
      obtain ⟨_, _, m2, m3, _, m5, _, _⟩ := ref_n (B4.out.bq H.out)
      have hbl4 := B4.out.sz
      have L0 : Hid (LateMid w w4 x u u (w4.alloc (.cells #[.slice none 0 0, .slice none 0 0] 120))) := ⟨⟨_, _, [], [], hp_new _ _, Ls.nil _ _, Ls.nil _ _, by rw [HTE.out]; exact rel_empty⟩, (Blw.rfl _).al _⟩
      have m5' : (w4.alloc (.cells #[.slice none 0 0, .slice none 0 0] 120)).cell? ⟨cb, 5, none⟩ = some (.slice la ln lc) := (ref_n (((Blw.rfl w4).al _).bq (B4.out.bq H.out))).2.2.2.2.2.1
      clear m2 m3
      go_wp2_with fail
      go_loopw [12] (fun i wr => ∃ j m : Nat, j + m = ln ∧ m ≤ u ∧ i = .int .i64 (j : Int) ∧ LateMid w w4 x u m wr) (fun i _ => ln - (intOf i).toNat)
      case atStart => exact ⟨ln - u, u, by have := HKK.out; omega, by omega, by have := HU.out; have := HKK.out; congr 1; omega, L0.out⟩
      case round =>
        obtain ⟨j, m, hjm, hmu, rfl, hM⟩ := hrel
        have htl2 := HT2.out
        have M := hid hM
        have BW := hid (B4.out.tr hM.bl)
        have c5 := (ref_n (BW.out.bq H.out)).2.2.2.2.2.1
        clear hM L0 m5'
        obtain ⟨va, vb, D1, E1, g1, g2, g3, g4⟩ := M.out.o
        by_cases hm0 : m = 0
        · subst hm0
          have hj : j = ln := by omega
          subst hj
          have HW := hid (write_any va vb D1 E1 wr (g4.pcAt (HTF.out 0 (Nat.zero_le _)).ok g2 g3))
          rw [g4.write (HTF.out 0 (Nat.zero_le _)).ok, ← HTX.out] at HW
          obtain ⟨vo, vc, rfl, -⟩ := g2.op
          obtain ⟨wo, wc, rfl, -⟩ := g3.op
          have f0 : wr.cell? ⟨w4.heap.size, 0, none⟩ = some (.slice vo D1.length vc) := blk_cell g1 0
          have f1 : wr.cell? ⟨w4.heap.size, 1, none⟩ = some (.slice wo E1.length wc) := blk_cell g1 1
          clear g1 g2 g3 g4 HTF HTJ HTE HTX HA HL
          go_wp2_with fail
          refine HW.out.mono ?_
          rintro e w5 ⟨rfl, b5⟩
          have B5 := hid (BW.out.tr b5)
          clear b5
          go_wp2
          go_ret2
          exact ⟨by rw [EY.out]; rfl, B5.out⟩
        · have hjl : j < ln := by omega
          have dj : decide ((j : Int) < (ln : Int)) = true := by simpa using hjl
          obtain ⟨g, o, cap, hv, hg, hcap, hc0, hc1⟩ := (HL.out.on BW.out).get j hjl
          have hA := HA.out.on BW.out
          have hkept := HLN.out
          have hjr : j < (x.late.take 4).reverse.length := by unfold Ext.kept at hkept; simp; omega
          obtain ⟨ya, yb, D2, E2, s1, s2, l1, l2, l3, l4⟩ := hA.lats.get j hjr
          have hjm' : j = min 4 x.late.length - m := by unfold Ext.kept at hkept; omega
          have hel : (x.late.take 4).reverse[j]'hjr = x.late.getD (m - 1) Pc.empty := by
            subst hjm'; exact late_rev x.late m (by omega) (by unfold Ext.kept at hkept; omega) hjr
          rw [hel] at l3 l4
          rw [s1] at hc0
          rw [s2] at hc1
          simp only [Value.slice.injEq] at hv
          obtain ⟨rfl, -, rfl⟩ := hv
          have NR : Hid (RelP (tailJ x.late u (m - 1)) (joinD D1 D2) (joinE D1 E1 D2 E2)) := by
            have := HTJ.out (m - 1) (by omega)
            show RelP _ _ _
            rw [this, show m - 1 + 1 = m by omega]
            exact rel_join g4 l3 (HTF.out m hmu) l4
          have P1 := hid (g4.pcAt (HTF.out m hmu).ok g2 g3)
          have P2 := hid (l3.pcAt l4.ok l1 l2)
          obtain ⟨vo, vc, rfl, -⟩ := g2.op
          obtain ⟨wo, wc, rfl, -⟩ := g3.op
          obtain ⟨xo, xc, rfl, -⟩ := l1.op
          obtain ⟨zo, zc, rfl, -⟩ := l2.op
          have HJ := hid (fun wx hx hx' => rjoin_any (.slice vo D1.length vc) (.slice wo E1.length wc) (.slice xo D2.length xc) (.slice zo E2.length zc) D1 E1 D2 E2 wx hx hx')
          have f0 : wr.cell? ⟨w4.heap.size, 0, none⟩ = some (.slice vo D1.length vc) := blk_cell g1 0
          have f1 : wr.cell? ⟨w4.heap.size, 1, none⟩ = some (.slice wo E1.length wc) := blk_cell g1 1
          have G1 := hid g1
          clear g1 g2 g3 g4 l1 l2 l3 l4 s1 s2 hA hkept hjr hel HTF HTJ HTE HTX hjm'
          go_wp2_with fail
          go_region_with (first | (go_at_call 111; refine (HJ.out _ (P1.out.on (Blw.dr (Blw.rfl _))) (P2.out.on (Blw.dr (Blw.rfl _)))).mono ?_; rintro e w5 ⟨u1, v1, rfl, j1, j2, b5⟩; have BB := hid (Blw.tr (Blw.dr (Blw.rfl wr)) b5); have NM := hid (M.out.step BB.out j1 j2 NR.out); have K5 := hid (BB.out.bq G1.out); have p0 : w5.cell? ⟨w4.heap.size, 0, none⟩ = some _ := blk_cell K5.out 0; have p1 : w5.cell? ⟨w4.heap.size, 1, none⟩ = some _ := blk_cell K5.out 1; have z0 := blk_frozen K5.out 0; have z1 := blk_frozen K5.out 1; obtain ⟨to1, tc1, rfl, -⟩ := j1.op; obtain ⟨to2, tc2, rfl, -⟩ := j2.op))
          all_goals
            go_wp2
            go_roundw
            case rel => exact ⟨j + 1, m - 1, by omega, by omega, by go_num, NM.out⟩
            case measure => simp [intOf]; omega
    · have dk : decide ((ln : Int) < ((x.had : Int) - (ao : Int))) = true := by simp; omega
      have ES : Hid (shipL me p x r ao = headL 70 me r x.had ++ p.text) := by show _ = _; rw [HSL.out, if_neg h0, if_neg hk]
      have HW := hid (fun wx hx => write_any (.slice ao1 D.length ca1) (.slice bo1 E.length cb1) D E wx hx)
      rw [HWr.out] at HW
      generalize p.text = tx at *
      clear HSL h0
      obtain ⟨y1, hy1⟩ : ∃ y1, y1 = [(70 : UInt8)] ++ [dig me] := ⟨_, rfl⟩
      obtain ⟨y2, hy2⟩ : ∃ y2, y2 = y1 ++ [dig r] := ⟨_, rfl⟩
      obtain ⟨y3, hy3⟩ : ∃ y3, y3 = y2 ++ [dig (x.had / 10), dig (x.had % 10)] := ⟨_, rfl⟩
      obtain ⟨y4, hy4⟩ : ∃ y4, y4 = y3 ++ tx := ⟨_, rfl⟩
      have t1 : ByteArray.mk #[70] ++ ByteArray.mk [dig me].toArray = ByteArray.mk y1.toArray := by rw [hy1]; exact ByteArray.mk_append_mk [70] [dig me]
      have t2 : ByteArray.mk y1.toArray ++ ByteArray.mk [dig r].toArray = ByteArray.mk y2.toArray := by rw [hy2]; exact ByteArray.mk_append_mk _ _
      have t3 : ByteArray.mk y2.toArray ++ ByteArray.mk [dig (x.had / 10), dig (x.had % 10)].toArray = ByteArray.mk y3.toArray := by rw [hy3]; exact ByteArray.mk_append_mk _ _
      have t4 : ByteArray.mk y3.toArray ++ ByteArray.mk (tx).toArray = ByteArray.mk y4.toArray := by rw [hy4]; exact ByteArray.mk_append_mk _ _
      have k1 : y1.length = 2 := by rw [hy1]; rfl
      have k2 : y2.length = 3 := by rw [hy2]; simp [k1]
      have k3 : y3.length = 5 := by rw [hy3]; simp [k2]
      have EY : Hid (shipL me p x r ao = y4) := by show _ = _; rw [ES.out, hy4, hy3, hy2, hy1]; simp [headL]
      clear hy1 hy2 hy3 hy4
      go_enter Tryz.func57, Tryz.ntmps57
      go_wp2_with fail
      go_quiet (fail)
      obtain ⟨w1, hw1⟩ : ∃ w1, w1 = w.drewN nq := ⟨_, rfl⟩
      rw [← hw1]
      have B1 : Hid (Blw w w1) := by show Blw w w1; rw [hw1]; exact Blw.drn (Blw.rfl _) _
      clear hw1 q0 q1 q2 q3 q4 q5 q6 q7 ca
      have m0 := (ref_n (B1.out.bq H.out)).1
      go_wp2_with fail
      refine (HD1.out _).mono ?_
      rintro e w2 ⟨rfl, b2⟩
      have B2 := hid (B1.out.tr b2)
      clear b2 B1 m0
      go_wp2_with fail
      refine (HD2.out _).mono ?_
      rintro e w3 ⟨rfl, b3⟩
      have B3 := hid (B2.out.tr b3)
      clear b3 B2
      have m4 := (ref_n (B3.out.bq H.out)).2.2.2.2.1
      go_wp2_with fail
      refine (HD3.out _).mono ?_
      rintro e w4 ⟨rfl, b4⟩
      have B4 := hid (B3.out.tr b4)
      clear b4 B3 m4
      obtain ⟨_, _, m2, m3, _, m5, _, _⟩ := ref_n (B4.out.bq H.out)
      go_wp2_with fail
      refine (HW.out _ (HP.out.on B4.out)).mono ?_
      rintro e w5 ⟨rfl, b5⟩
      have B5 := hid (B4.out.tr b5)
      clear b5
      go_wp2
      go_ret2
      exact ⟨by rw [EY.out]; rfl, B5.out⟩
end Go.Proofs.YtalaldfgjgpacaaGreatDoor
