import Derived.Test.YtalaldfgjgpacaaGreatDoorX13
namespace Go.Proofs.YtalaldfgjgpacaaGreatDoor
set_option linter.unusedVariables false
set_option linter.unusedSimpArgs false
open Go.RowKit
attribute [local go_sem ↓] Go.wp_at_zero Go.wp_at_succ

/-- A message that was sent comes to a replica. -/
theorem take_cl {w : World} {m : CM} {s : CS} (hI : Inv s) {r : Nat} (hr : r < s.n) (h : ClAt w m (s.ahead r)) {e : Mail} (he : e ∈ s.wire) {u : Value} (hu : FrzV m.own w s.n u e.knows) (hal : s.acks.length ≤ 10000000) :
    Calls Tryz.prog 66 #[.pointer (some ⟨m.cb, 0, none⟩), .int .i64 r, .agg (mailA e.text e.frm e.dst u)] w fun z w' => z = .returned (.bool true) ∧ ∃ m', Moved w w' m m' ((s.ahead r).take r e) := by
  obtain ⟨E, V, hC⟩ := hI.core
  have hi := hC.rep r hr
  have hfit := hi.ok.fits hi.short
  have hw := hC.wire e he
  obtain ⟨kd, cnt, D, A, h1, h2, hc, h3, h4, h5, h6, hp, d1, d2, _⟩ := WireOk.msg hC hw
  have PR : TakePre w m (s.ahead r) r e.frm e.dst cnt kd D := ⟨h, hr, hw.f, hw.t, hc, h1, hfit.2.2, hi.ok.fine.ok, d1, d2, rfl, rfl, rfl⟩
  by_cases hd : e.dst = r
  · obtain ⟨g1, g2, g3, g4⟩ := hC.taken hw h5 h6
    have hce : checkE s.n (s.p r) D = 0 := by
      have hf := g1.fits g2
      rw [← (hC.rep _ hw.t).is, hd] at hf
      have := checkE_fits s.n (s.p r) D
      rw [hf] at this
      exact of_decide_eq_true this.symm
    have hU : ∀ w, s.n ≤ w → e.knows w = 0 := ((hC.rep _ hw.f).bnd.le (WireOk.kle hC hw)).out
    have hfr : e.frm ≠ r := by rw [← hd]; exact hw.ne
    have hans : ansL r e.text = headL 65 r e.frm cnt := by rw [h2]; exact ansL_head r 0 kd e.frm e.dst cnt D.text
    rw [hd] at PR
    have key : (s.ahead r).take r e = tookS (s.ahead r) r e.frm cnt (if (s.p r).dots < ((s.p r).join D).dots then (s.p r).join D else s.p r) (if (s.p r).dots < ((s.p r).join D).dots then (s.x r).next D else s.x r) e.knows := by
      unfold CS.take
      rw [if_pos hd, hp, hans]
      by_cases hn : (s.p r).dots < ((s.p r).join D).dots
      · rw [if_pos (show ((s.ahead r).p r).dots < (((s.ahead r).p r).join D).dots from hn), if_pos hn, if_pos hn]
        rfl
      · rw [if_neg (show ¬ ((s.ahead r).p r).dots < (((s.ahead r).p r).join D).dots from hn), if_neg hn, if_neg hn]
        unfold tookS
        rw [show upd (s.ahead r).p r (s.p r) = (s.ahead r).p from upd_self s.p r, show upd (s.ahead r).x r (s.x r) = (s.ahead r).x from upd_self s.x r]
    rw [key]
    have hM : mailA e.text e.frm e.dst u = mailA (headL kd e.frm r cnt ++ D.text) e.frm r u := by rw [h2, hd]
    rw [hM]
    exact take_mine PR hfr hu hU hce hal _ _ rfl rfl
  · have key : (s.ahead r).take r e = { s.ahead r with err := 6 } := by
      unfold CS.take
      rw [if_neg hd]
    rw [key, h2]
    exact take_other PR hd

theorem mail_cells {f : Nat → List Value} {l : List Mail} {i : Nat} {e : Mail} {u : Value} (hi : i < l.length) (hf : f i = mailC e u) (hl : ∀ j, j < l.length → (f j).length = 4) (j : Nat) (hj : j < 4) : (flatC f l.length)[i * 4 + j]? = (mailC e u)[j]? := by
  rw [flatC_get l.length i j hi hj hl, hf]

/-- The cells of a row that is owned. -/
theorem ownsRow_cell {w : World} {base sz n : Nat} {t : TypeId} {g cap : Nat} {xs : List Value} (h : w.ownsRow base t sz (.slice (some ⟨g, 0, none⟩) n cap) n xs) (j : Nat) (hj : j < n * sz) : w.cell? ⟨g, j, none⟩ = xs[j]? := by
  rcases h.2 with ⟨e, _⟩ | ⟨g', cap', cur, e, h1, h2, h3, h4, h5, h6⟩
  · cases e
  · injection e with e1 e2 e3
    injection e1 with e1
    injection e1 with e1
    subst e1
    rw [blk_cell h2, ← h6]
    rw [List.getElem?_take, if_pos hj]
    simp

theorem pickN_toNat {k n : Int} (hn : 0 < n) : ((pickN k n).toNat : Int) = pickN k n := by
  have := pickN_bd k n hn; omega

set_option maxRecDepth 100000 in
set_option maxHeartbeats 4000000 in
/-- Which letter a raw number speaks of, and where it goes. -/
theorem nth_go {w : World} {m : CM} {t : CS} (h : ClAt w m t) (g cap len : Nat) (k r0 : Int) (e0 : Bs) (ef ed : Nat) (uo : Option Addr) (ul uc : Nat) (i : Nat) (hi : i < len) (hlen : len ≤ 10000000) (hk1 : -9223372036854775808 ≤ k) (hk2 : k ≤ 9223372036854775807) (hr1 : -9223372036854775808 ≤ r0) (hr2 : r0 ≤ 9223372036854775807)
    (hat : i = nthAt len k) (c0 : w.cell? ⟨g, i * 4, none⟩ = some (.string ⟨e0.toArray⟩)) (c1 : w.cell? ⟨g, i * 4 + 1, none⟩ = some (.int .i64 ef)) (c2 : w.cell? ⟨g, i * 4 + 2, none⟩ = some (.int .i64 ed)) (c3 : w.cell? ⟨g, i * 4 + 3, none⟩ = some (.slice uo ul uc)) :
    Calls Tryz.prog 65 #[.pointer (some ⟨m.cb, 0, none⟩), .slice (some ⟨g, 0, none⟩) len cap, .int .i64 k, .int .i64 r0] w fun z w' => z = .returned (.tuple #[.agg (mailA e0 ef ed (.slice uo ul uc)), .int .i64 (if r0 < 0 then (ed : Int) else pickN r0 t.n)]) ∧ Blw w w' := by
  have hn3 := h.n3
  have hn1 := h.n1
  have HP := hid (fun wx => pick_any k len wx hk1 hk2 (by omega) (by omega))
  have HQ := hid (fun wx => pick_any r0 t.n wx hr1 hr2 (by omega) (by omega))
  obtain ⟨q1, q2⟩ := pickN_bd k len (by omega)
  have hat' : (i : Int) = if k < 0 then (len : Int) - 1 - pickN k len else pickN k len := by
    rw [hat]; unfold nthAt
    split <;> omega
  generalize pickN k len = pk at *
  generalize pickN r0 t.n = pr at *
  have u0 : w.cell? ⟨m.cb, 0, none⟩ = some (.int .i64 t.n) := by rw [h.cell]; rfl
  have hgb : g ≠ w.heap.size := Nat.ne_of_lt (World.block_lt_of_cell? w _ c0)
  have hcb : m.cb ≠ w.heap.size := Nat.ne_of_lt h.lt
  have hi0 : (0 : Int) ≤ (i : Int) := Int.natCast_nonneg _
  have hi1 : (i : Int) < (len : Int) := by omega
  have HI := hid hat'
  obtain ⟨dd, hdd⟩ : ∃ dd : Int, dd = if r0 < 0 then (ed : Int) else pr := ⟨_, rfl⟩
  rw [← hdd]
  have HDD := hid hdd
  clear hdd
  obtain ⟨W1, hW1⟩ : ∃ W1, W1 = w.alloc (.cells #[.string ⟨#[]⟩, .int .i64 0, .int .i64 0, .slice none 0 0] 104) := ⟨_, rfl⟩
  have B1 : Blw w W1 := by rw [hW1]; exact (Blw.rfl w).al _
  have z1 : W1.heap[w.heap.size]? = some (.cells #[.string ⟨#[]⟩, .int .i64 0, .int .i64 0, .slice none 0 0] 104) := by rw [hW1]; exact hp_new w _
  have e1 : ∀ a o x, w.cell? ⟨a, o, none⟩ = some x → W1.cell? ⟨a, o, none⟩ = some x := fun a o x hx => ((bcell B1).1 a o (World.block_lt_of_cell? w _ hx)).trans hx
  have d0 := e1 _ _ _ c0
  have d1 := e1 _ _ _ c1
  have d2 := e1 _ _ _ c2
  have d3 := e1 _ _ _ c3
  have v0 := e1 _ _ _ u0
  have y0 : W1.cell? ⟨w.heap.size, 0, none⟩ = some (.string ⟨#[]⟩) := by rw [blk_cell z1]; rfl
  have y1 : W1.cell? ⟨w.heap.size, 1, none⟩ = some (.int .i64 0) := by rw [blk_cell z1]; rfl
  have y2 : W1.cell? ⟨w.heap.size, 2, none⟩ = some (.int .i64 0) := by rw [blk_cell z1]; rfl
  have y3 : W1.cell? ⟨w.heap.size, 3, none⟩ = some (.slice none 0 0) := by rw [blk_cell z1]; rfl
  have yf : ∀ o, W1.frozen? ⟨w.heap.size, o, none⟩ = false := fun o => blk_frozen z1 o
  have z9 := set4_self z1 (.string ⟨e0.toArray⟩) (.int .i64 ef) (.int .i64 ed) (.slice uo ul uc)
  have b9 : Blw w (set4 W1 w.heap.size (.string ⟨e0.toArray⟩) (.int .i64 ef) (.int .i64 ed) (.slice uo ul uc)) := set4_blw B1 (Nat.le_refl _) _ _ _ _
  have e9 : ∀ a o x, w.cell? ⟨a, o, none⟩ = some x → (set4 W1 w.heap.size (.string ⟨e0.toArray⟩) (.int .i64 ef) (.int .i64 ed) (.slice uo ul uc)).cell? ⟨a, o, none⟩ = some x := fun a o x hx => ((bcell b9).1 a o (World.block_lt_of_cell? w _ hx)).trans hx
  have S9 := hid (show (((set4 W1 w.heap.size (.string ⟨e0.toArray⟩) (.int .i64 ef) (.int .i64 ed) (.slice uo ul uc)).cell? ⟨g, i * 4, none⟩ = some (.string ⟨e0.toArray⟩) ∧ (set4 W1 w.heap.size (.string ⟨e0.toArray⟩) (.int .i64 ef) (.int .i64 ed) (.slice uo ul uc)).cell? ⟨g, i * 4 + 1, none⟩ = some (.int .i64 ef) ∧ (set4 W1 w.heap.size (.string ⟨e0.toArray⟩) (.int .i64 ef) (.int .i64 ed) (.slice uo ul uc)).cell? ⟨g, i * 4 + 2, none⟩ = some (.int .i64 ed) ∧ (set4 W1 w.heap.size (.string ⟨e0.toArray⟩) (.int .i64 ef) (.int .i64 ed) (.slice uo ul uc)).cell? ⟨g, i * 4 + 3, none⟩ = some (.slice uo ul uc) ∧ (set4 W1 w.heap.size (.string ⟨e0.toArray⟩) (.int .i64 ef) (.int .i64 ed) (.slice uo ul uc)).cell? ⟨m.cb, 0, none⟩ = some (.int .i64 t.n))) from ⟨e9 _ _ _ c0, e9 _ _ _ c1, e9 _ _ _ c2, e9 _ _ _ c3, e9 _ _ _ u0⟩)
  have S1 := hid (show (W1.cell? ⟨g, i * 4, none⟩ = some (.string ⟨e0.toArray⟩) ∧ W1.cell? ⟨g, i * 4 + 1, none⟩ = some (.int .i64 ef) ∧ W1.cell? ⟨g, i * 4 + 2, none⟩ = some (.int .i64 ed) ∧ W1.cell? ⟨g, i * 4 + 3, none⟩ = some (.slice uo ul uc) ∧ W1.cell? ⟨m.cb, 0, none⟩ = some (.int .i64 t.n)) from ⟨d0, d1, d2, d3, v0⟩)
  have HIN : Hid ((Tryz.prog.info? 104).map (·.size) = some (mailA e0 ef ed (.slice uo ul uc)).size) := by
    have hmi := infoMail
    cases hx : Tryz.prog.info? 104 with
    | none => rw [hx] at hmi; cases hmi
    | some ii =>
      rw [hx] at hmi
      simp only [Option.map_some, Option.some.injEq, Prod.mk.injEq] at hmi
      show some ii.size = some 4
      rw [hmi.2.1]
  have Z9 := hid (show (set4 W1 w.heap.size (.string ⟨e0.toArray⟩) (.int .i64 ef) (.int .i64 ed) (.slice uo ul uc)).drew.heap[w.heap.size]? = some (.cells (mailA e0 ef ed (.slice uo ul uc)) 104) from z9)
  have B9 := hid (show Blw w (set4 W1 w.heap.size (.string ⟨e0.toArray⟩) (.int .i64 ef) (.int .i64 ed) (.slice uo ul uc)).drew from b9.dr)
  have ZB := hid (And.intro B1 z1)
  unfold set4 at Z9 B9
  clear z9 b9 e9
  have HW1 := hid hW1
  clear h hat hat' e1 c0 c1 c2 c3 u0 z1 B1 hW1
  go_enter Tryz.func65, Tryz.ntmps65
  go_wp2_with fail
  rw [← HW1.out]
  refine (HP.out _).mono ?_
  rintro e w1 ⟨rfl, hw⟩
  rw [hw]; clear hw w1
  by_cases hkn : k < 0
  · have hsub : (len : Int) - 1 - pk = (i : Int) := by have := HI.out; rw [if_pos hkn] at this; omega
    by_cases hrn : r0 < 0
    · have hdd : dd = (ed : Int) := by rw [HDD.out, if_pos hrn]
      subst hdd
      go_wp2
      go_region
      all_goals
        go_wp2
        have K9 := Z9.out
        have K8 := B9.out
        generalize ((((W1.setCell ⟨w.heap.size, 0, none⟩ (.string ⟨e0.toArray⟩)).setCell ⟨w.heap.size, 1, none⟩ (.int .i64 (ef : Int))).setCell ⟨w.heap.size, 2, none⟩ (.int .i64 (ed : Int))).setCell ⟨w.heap.size, 3, none⟩ (.slice uo ul uc)).drew = wz at K9 K8 ⊢
        generalize mailA e0 ef ed (.slice uo ul uc) = ma at *
        exact bodyPost_ret (results_row_tmp rfl _ _ w.heap.size 104 ma (0, 0) _ (by rfl) K9 Tryz.underlying104 rfl HIN.out) rfl ⟨rfl, K8⟩
    · have hdd : dd = pr := by rw [HDD.out, if_neg hrn]
      subst hdd
      go_wp2
      go_region_held3 (fun w' => w'.cell? ⟨g, i * 4, none⟩ = some (.string ⟨e0.toArray⟩) ∧ w'.cell? ⟨g, i * 4 + 1, none⟩ = some (.int .i64 ef) ∧ w'.cell? ⟨g, i * 4 + 2, none⟩ = some (.int .i64 ed) ∧ w'.cell? ⟨g, i * 4 + 3, none⟩ = some (.slice uo ul uc) ∧ w'.cell? ⟨m.cb, 0, none⟩ = some (.int .i64 t.n)) (first | exact S1.out | exact S9.out)
        (first | (go_at_call 21; refine (HQ.out _).mono ?_; rintro e w1 ⟨rfl, hw⟩; subst hw))
      all_goals
        go_wp2
        have K9 := Z9.out
        have K8 := B9.out
        generalize ((((W1.setCell ⟨w.heap.size, 0, none⟩ (.string ⟨e0.toArray⟩)).setCell ⟨w.heap.size, 1, none⟩ (.int .i64 (ef : Int))).setCell ⟨w.heap.size, 2, none⟩ (.int .i64 (ed : Int))).setCell ⟨w.heap.size, 3, none⟩ (.slice uo ul uc)).drew = wz at K9 K8 ⊢
        generalize mailA e0 ef ed (.slice uo ul uc) = ma at *
        exact bodyPost_ret (results_row_tmp rfl _ _ w.heap.size 104 ma (0, 0) _ (by rfl) K9 Tryz.underlying104 rfl HIN.out) rfl ⟨rfl, K8⟩
  · have hpk : pk = (i : Int) := by have := HI.out; rw [if_neg hkn] at this; omega
    subst hpk
    by_cases hrn : r0 < 0
    · have hdd : dd = (ed : Int) := by rw [HDD.out, if_pos hrn]
      subst hdd
      go_wp2
      go_region
      all_goals
        go_wp2
        have K9 := Z9.out
        have K8 := B9.out
        generalize ((((W1.setCell ⟨w.heap.size, 0, none⟩ (.string ⟨e0.toArray⟩)).setCell ⟨w.heap.size, 1, none⟩ (.int .i64 (ef : Int))).setCell ⟨w.heap.size, 2, none⟩ (.int .i64 (ed : Int))).setCell ⟨w.heap.size, 3, none⟩ (.slice uo ul uc)).drew = wz at K9 K8 ⊢
        generalize mailA e0 ef ed (.slice uo ul uc) = ma at *
        exact bodyPost_ret (results_row_tmp rfl _ _ w.heap.size 104 ma (0, 0) _ (by rfl) K9 Tryz.underlying104 rfl HIN.out) rfl ⟨rfl, K8⟩
    · have hdd : dd = pr := by rw [HDD.out, if_neg hrn]
      subst hdd
      go_wp2
      go_region_held3 (fun w' => w'.cell? ⟨g, i * 4, none⟩ = some (.string ⟨e0.toArray⟩) ∧ w'.cell? ⟨g, i * 4 + 1, none⟩ = some (.int .i64 ef) ∧ w'.cell? ⟨g, i * 4 + 2, none⟩ = some (.int .i64 ed) ∧ w'.cell? ⟨g, i * 4 + 3, none⟩ = some (.slice uo ul uc) ∧ w'.cell? ⟨m.cb, 0, none⟩ = some (.int .i64 t.n)) (first | exact S1.out | exact S9.out)
        (first | (go_at_call 21; refine (HQ.out _).mono ?_; rintro e w1 ⟨rfl, hw⟩; subst hw))
      all_goals
        go_wp2
        have K9 := Z9.out
        have K8 := B9.out
        generalize ((((W1.setCell ⟨w.heap.size, 0, none⟩ (.string ⟨e0.toArray⟩)).setCell ⟨w.heap.size, 1, none⟩ (.int .i64 (ef : Int))).setCell ⟨w.heap.size, 2, none⟩ (.int .i64 (ed : Int))).setCell ⟨w.heap.size, 3, none⟩ (.slice uo ul uc)).drew = wz at K9 K8 ⊢
        generalize mailA e0 ef ed (.slice uo ul uc) = ma at *
        exact bodyPost_ret (results_row_tmp rfl _ _ w.heap.size 104 ma (0, 0) _ (by rfl) K9 Tryz.underlying104 rfl HIN.out) rfl ⟨rfl, K8⟩
end Go.Proofs.YtalaldfgjgpacaaGreatDoor
