import Derived.Test.YtalaldfgjgpacaaGreatDoorHAW
import Derived.Deep.RegionWith
import Derived.Deep.RegionHeld3
import Derived.Deep.DeepCutAuto
import Derived.BigRegion
namespace Go.Proofs.YtalaldfgjgpacaaGreatDoor
set_option linter.unusedVariables false
set_option linter.unusedSimpArgs false
open Go.RowKit
attribute [local go_sem ↓] Go.wp_at_zero Go.wp_at_succ

set_option maxRecDepth 100000 in
set_option maxHeartbeats 8000000 in
theorem call_stale0 {w : World} {m : CM} {t : CS} {r wn : Nat} {kd r0 t0 a0 b0 c0 c it v : Int} {s0 : ByteArray} {tk : Bs} (H : CallPre w m t r wn kd c it v tk) (hk : 3 ≤ kd ∧ kd ≤ 6) (hmd : t.mode = 0) (htk : tk = noughtsL t.n) (hsv : staleK (vecL t.n (t.K r)) tk t.n = true) (hee : evErr r t.n (t.p r) tk = 3)
   (hA : ∀ wx, Calls Tryz.prog 21 #[.int .i64 a0, .int .i64 3] wx fun e w' => e = .returned (.int .i64 c) ∧ w' = wx)
   (hB : ∀ wx, Calls Tryz.prog 21 #[.int .i64 b0, .int .i64 4] wx fun e w' => e = .returned (.int .i64 it) ∧ w' = wx)
   (hC : ∀ wx, Calls Tryz.prog 21 #[.int .i64 c0, .int .i64 199] wx fun e w' => e = .returned (.int .i64 (v + 99)) ∧ w' = wx)
   (hT : ∀ wx, Calls Tryz.prog 21 #[.int .i64 t0, .int .i64 3] wx fun e w' => e = .returned (.int .i64 wn) ∧ w' = wx) :
    Calls Tryz.prog 63 #[.pointer (some ⟨m.cb, 0, none⟩), .int .i64 r, .agg (opArr kd r0 t0 a0 b0 c0 s0)] w fun e w' => e = .returned (.bool true) ∧ ∃ m', Moved w w' m m' (t.refused wn 3) := by
  have HA := hid hA
  have HB := hid hB
  have HC := hid hC
  have HT := hid hT
  have hr := H.hr
  have hw3 := H.hw
  have hn3 := H.cl.n3
  have hc0 := H.c0
  have hc1 := H.c1
  have hi0 := H.i0
  have hi1 := H.i1
  have hv0 := H.v0
  have hv1 := H.v1
  have HEE := hid hee
  have HSV := hid hsv
  obtain ⟨F, hF⟩ : ∃ F : World → Prop, F = fun w' => ∃ m', Moved w w' m m' (t.refused wn 3) := ⟨_, rfl⟩
  rw [show (fun e w' => e = Ending.returned (.bool true) ∧ ∃ m', Moved w w' m m' (t.refused wn 3)) = fun e w' => e = Ending.returned (.bool true) ∧ F w' by rw [hF]]
  have HF := hid hF
  clear hF hA hB hC hT hee hsv
  obtain ⟨W0, hW0⟩ : ∃ W0, W0 = w.alloc (.cells (opArr kd r0 t0 a0 b0 c0 s0) 46) := ⟨_, rfl⟩
  have B0 : Blw w W0 := by rw [hW0]; exact (Blw.rfl w).al _
  have h0 := H.cl.blw B0
  have O0 : OpAt W0 w.heap.size kd r0 t0 a0 b0 c0 s0 := ⟨by rw [hW0]; exact hp_new w _⟩
  obtain ⟨f0, f1, f2, f3, f4, f5, f6⟩ := O0.cells
  have u0 : W0.cell? ⟨m.cb, 0, none⟩ = some (.int .i64 t.n) := by rw [h0.cell]; rfl
  have u1 : W0.cell? ⟨m.cb, 1, none⟩ = some (.int .i64 0) := by rw [h0.cell, ← hmd]; rfl
  have u7 : W0.cell? ⟨m.cb, 7, none⟩ = some (.slice (some ⟨m.tb, 0, none⟩) 3 m.ct) := by rw [h0.cell]; rfl
  have u8 : W0.cell? ⟨m.cb, 8, none⟩ = some (.slice (some ⟨m.ob, 0, none⟩) t.n m.co) := by rw [h0.cell]; rfl
  have u18 : W0.cell? ⟨m.cb, 18, none⟩ = some (.int .i64 t.client) := by rw [h0.cell]; rfl
  have u19 : W0.cell? ⟨m.cb, 19, none⟩ = some (.string ⟨t.tok.toArray⟩) := by rw [h0.cell]; rfl
  have uf := h0.fz
  have ut := h0.t0 hw3
  have uo := h0.o0 hr
  have hcs : m.cb ≠ w.heap.size := Nat.ne_of_lt H.cl.lt
  have htc : m.tb ≠ m.cb := ne_ty h0.tk.tk h0.row (by decide)
  have hoc : m.ob ≠ m.cb := ne_ty h0.ow.tk h0.row (by decide)
  obtain ⟨c1', bx1⟩ := noted_cl h0 wn
  obtain ⟨W1, hW1⟩ : ∃ W1, W1 = noted W0 m t wn := ⟨_, rfl⟩
  rw [← hW1] at c1' bx1
  have O1 : OpAt W1 w.heap.size kd r0 t0 a0 b0 c0 s0 := O0.on (bx1.oth _ (Ne.symm hcs) ⟨_, O0.blk⟩)
  have htkl : tk.length = t.n := by have := H.tok; simp only [isTok, Bool.and_eq_true, beq_iff_eq] at this; exact this.1
  have HASK := hid (asks_ev m.cb m.xb (m.b r) r t.n r m.cx t.mode (t.p r) (t.x r) H.xs m.xa _ _ _ _ _ _ _ W1 t.said t.err t.last t.lg t.st m.ol t.nevs t.nwire t.nacks wn (t.toks wn) kd r0 t0 a0 b0 c0 s0 ⟨tk.toArray⟩ c it v hk hn3 hr hr (by rw [bs_size, htkl]; unfold maxLen; omega) c1'.tab H.c0 H.c1 H.i0 H.i1 H.v0 H.v1 c1'.row c1'.xs.xs (c1'.xs.xr r hr) (c1'.xs.rep r hr))
  rw [bs_data] at HASK
  have HH := hid H
  have C0 := hid (And.intro h0 (And.intro B0 O0))
  have C1 := hid (And.intro c1' (And.intro bx1 O1))
  have HW0 := hid hW0
  have HW1 : Hid (W1 = (W0.setCell ⟨m.cb, 18, none⟩ (.int .i64 wn)).setCell ⟨m.cb, 19, none⟩ (.string ⟨(t.toks wn).toArray⟩)) := hW1
  have HTK := hid htk
  have HTL := hid htkl
  have HMD := hid hmd
  clear H h0 B0 O0 c1' bx1 O1 hW0 hW1 htk htkl hmd
  rw [HTK.out] at HASK
  unfold opArr at *
  go_enter Tryz.func63, Tryz.ntmps63
  go_wp2_with fail
  rw [← HW0.out]
  refine (HA.out _).mono ?_
  rintro e w1 ⟨rfl, hw⟩
  rw [hw]; clear hw w1
  go_wp2_with fail
  refine (HB.out _).mono ?_
  rintro e w1 ⟨rfl, hw⟩
  rw [hw]; clear hw w1
  go_wp2_with fail
  refine (HC.out _).mono ?_
  rintro e w1 ⟨rfl, hw⟩
  rw [hw]; clear hw w1
  go_wp2_with fail
  refine (HT.out _).mono ?_
  rintro e w1 ⟨rfl, hw⟩
  rw [hw]; clear hw w1
  go_wp2_with fail
  refine (zeros_any t.n _ hn3).mono ?_
  rintro e w1 ⟨rfl, hw⟩
  rw [hw]; clear hw w1
  go_wp2_with fail
  rw [← HW1.out]
  rw [← HTK.out]
  rw [← HTK.out] at HASK
  refine HASK.out.mono ?_
  rintro e w2 ⟨he, rep2, bx2⟩
  rw [HEE.out] at he
  have hne : evErr r t.n (t.p r) tk ≠ 0 := by rw [HEE.out]; decide
  have eP : askTo r t.n (t.p r) kd c it v tk = t.p r := by unfold askTo; rw [if_neg hne]
  have eX : askX r t.n (t.p r) (t.x r) kd c it v tk = t.x r := by unfold askX; rw [if_neg hne]
  have eT : evTok r t.n (t.p r) (askTo r t.n (t.p r) kd c it v tk) tk = [] := by unfold evTok; rw [if_neg hne]
  rw [eT] at he
  rw [eP, eX] at rep2
  have c2 := C1.out.1.rep_to hr bx2 rep2
  change ClAt w2 m { t with client := (wn : Int), tok := t.toks wn, p := upd t.p r (t.p r), x := upd t.x r (t.x r) } at c2
  rw [upd_self, upd_self] at c2
  clear eP eX eT rep2 hne
  subst he
  have O2 : OpAt w2 w.heap.size kd r0 t0 a0 b0 c0 s0 := C1.out.2.2.on (bx2.oth _ (fun e => by have := lt_of_blk (HH.out.cl.xs.rep r hr); omega) ⟨_, C1.out.2.2.blk⟩)
  have v10 : w2.cell? ⟨m.cb, 10, none⟩ = some (.int .i64 t.err) := by rw [c2.cell]; rfl
  have vf := c2.fz
  obtain ⟨c3, bx3⟩ := err_cl c2 3
  obtain ⟨W3, hW3⟩ : ∃ W3, W3 = w2.setCell ⟨m.cb, 10, none⟩ (.int .i64 3) := ⟨_, rfl⟩
  rw [← hW3] at c3 bx3
  have O3 : OpAt W3 w.heap.size kd r0 t0 a0 b0 c0 s0 := O2.on (bx3.oth _ (Ne.symm hcs) ⟨_, O2.blk⟩)
  have HST := hid (stale_cl c3 hr tk HH.out.tok)
  have C3 := hid (And.intro c3 (And.intro (Kp.tr (C1.out.2.1.kp HH.out.cl.oc) (Kp.tr (bx2.kp (HH.out.cl.xs.ob r hr)) (bx3.kp HH.out.cl.oc))) O3))
  have HW3 := hid hW3
  clear c2 c3 bx2 bx3 O2 O3 hW3 u0 u1 u7 u8 u18 u19 uf ut uo f0 f1 f2 f3 f4 f5 f6
  go_wp2_with fail
  rw [← HW3.out]
  refine HST.out.mono ?_
  rintro e w4 ⟨he, b4⟩
  have he2 : e = .returned (.bool true) := by rw [he]; exact congrArg (fun b => Ending.returned (.bool b)) HSV.out
  clear he
  subst he2
  have c4 := C3.out.1.blw b4
  have O4 : OpAt w4 w.heap.size kd r0 t0 a0 b0 c0 s0 := C3.out.2.2.on (b4.bk _ (lt_of_blk C3.out.2.2.blk))
  obtain ⟨f0, f1, f2, f3, f4, f5, f6⟩ := O4.cells
  have u0 : w4.cell? ⟨m.cb, 0, none⟩ = some (.int .i64 t.n) := by rw [c4.cell]; rfl
  have u3 : w4.cell? ⟨m.cb, 3, none⟩ = some (.slice (some ⟨m.kb, 0, none⟩) t.n m.ck) := by rw [c4.cell]; rfl
  have uk : w4.cell? ⟨m.kb, r, none⟩ = some (.slice (some ⟨m.g r, 0, none⟩) t.n t.n) := c4.k0 hr
  have ug : w4.cell? ⟨m.g r, r, none⟩ = some (.int .i64 (t.K r r)) := c4.g0 hr hr
  have C4 := hid (And.intro c4 (And.intro (C3.out.2.1.tr (b4.kp _)) O4))
  clear c4 O4 b4
  have u9 : w4.cell? ⟨m.cb, 9, none⟩ = some (.string ⟨#[]⟩) := by rw [C4.out.1.cell, ← show (⟨t.said.toArray⟩ : ByteArray) = ⟨#[]⟩ by rw [HH.out.said]]; rfl
  have HSTL := hid (still_cl C4.out.1 hr HH.out.pok)
  go_wp2_with fail
  refine HSTL.out.mono ?_
  rintro e w5 ⟨he, b5⟩
  have he2 : e = .returned (.bool true) := by
    rw [he]
    have e1 : ((t.x r).log == t.lg) = true := by rw [HH.out.lg]; exact beq_self_eq_true _
    have e2 : (stL (t.p r) t.n == t.st) = true := by rw [HH.out.st]; exact beq_self_eq_true _
    show Ending.returned (.bool (((t.x r).log == t.lg) && (stL (t.p r) t.n == t.st))) = _
    rw [e1, e2]; rfl
  clear he
  subst he2
  have c5 := C4.out.1.blw b5
  have v9 : w5.cell? ⟨m.cb, 9, none⟩ = some (.string ⟨#[]⟩) := by rw [c5.cell, ← show (⟨t.said.toArray⟩ : ByteArray) = ⟨#[]⟩ by rw [HH.out.said]]; rfl
  have FIN : Hid (F w5) := by
    show F w5
    rw [HF.out]
    exact ⟨m, c5, ((C0.out.2.1.kp _).tr (C4.out.2.1)).tr (b5.kp _), fun k hk => .inl hk, rfl, fun k hk => hk⟩
  clear c5 b5 u0 u3 uk ug u9 f0 f1 f2 f3 f4 f5 f6
  go_wp2
  go_ret
  exact ⟨rfl, FIN.out⟩

set_option maxRecDepth 100000 in
set_option maxHeartbeats 8000000 in
theorem call_full0 {w : World} {m : CM} {t : CS} {r wn : Nat} {kd r0 t0 a0 b0 c0 c it v : Int} {s0 : ByteArray} {tk : Bs} (H : CallPre w m t r wn kd c it v tk) (hk : 3 ≤ kd ∧ kd ≤ 6) (hmd : t.mode = 0) (htk : tk = noughtsL t.n) (hsv : staleK (vecL t.n (t.K r)) tk t.n = false) (hK : t.K r r = 9) (hee : evErr r t.n (t.p r) tk = 4)
   (hA : ∀ wx, Calls Tryz.prog 21 #[.int .i64 a0, .int .i64 3] wx fun e w' => e = .returned (.int .i64 c) ∧ w' = wx)
   (hB : ∀ wx, Calls Tryz.prog 21 #[.int .i64 b0, .int .i64 4] wx fun e w' => e = .returned (.int .i64 it) ∧ w' = wx)
   (hC : ∀ wx, Calls Tryz.prog 21 #[.int .i64 c0, .int .i64 199] wx fun e w' => e = .returned (.int .i64 (v + 99)) ∧ w' = wx)
   (hT : ∀ wx, Calls Tryz.prog 21 #[.int .i64 t0, .int .i64 3] wx fun e w' => e = .returned (.int .i64 wn) ∧ w' = wx) :
    Calls Tryz.prog 63 #[.pointer (some ⟨m.cb, 0, none⟩), .int .i64 r, .agg (opArr kd r0 t0 a0 b0 c0 s0)] w fun e w' => e = .returned (.bool true) ∧ ∃ m', Moved w w' m m' (t.refused wn 4) := by
  have HA := hid hA
  have HB := hid hB
  have HC := hid hC
  have HT := hid hT
  have hr := H.hr
  have hw3 := H.hw
  have hn3 := H.cl.n3
  have hc0 := H.c0
  have hc1 := H.c1
  have hi0 := H.i0
  have hi1 := H.i1
  have hv0 := H.v0
  have hv1 := H.v1
  have HEE := hid hee
  have HSV := hid hsv
  obtain ⟨F, hF⟩ : ∃ F : World → Prop, F = fun w' => ∃ m', Moved w w' m m' (t.refused wn 4) := ⟨_, rfl⟩
  rw [show (fun e w' => e = Ending.returned (.bool true) ∧ ∃ m', Moved w w' m m' (t.refused wn 4)) = fun e w' => e = Ending.returned (.bool true) ∧ F w' by rw [hF]]
  have HF := hid hF
  clear hF hA hB hC hT hee hsv
  obtain ⟨W0, hW0⟩ : ∃ W0, W0 = w.alloc (.cells (opArr kd r0 t0 a0 b0 c0 s0) 46) := ⟨_, rfl⟩
  have B0 : Blw w W0 := by rw [hW0]; exact (Blw.rfl w).al _
  have h0 := H.cl.blw B0
  have O0 : OpAt W0 w.heap.size kd r0 t0 a0 b0 c0 s0 := ⟨by rw [hW0]; exact hp_new w _⟩
  obtain ⟨f0, f1, f2, f3, f4, f5, f6⟩ := O0.cells
  have u0 : W0.cell? ⟨m.cb, 0, none⟩ = some (.int .i64 t.n) := by rw [h0.cell]; rfl
  have u1 : W0.cell? ⟨m.cb, 1, none⟩ = some (.int .i64 0) := by rw [h0.cell, ← hmd]; rfl
  have u7 : W0.cell? ⟨m.cb, 7, none⟩ = some (.slice (some ⟨m.tb, 0, none⟩) 3 m.ct) := by rw [h0.cell]; rfl
  have u8 : W0.cell? ⟨m.cb, 8, none⟩ = some (.slice (some ⟨m.ob, 0, none⟩) t.n m.co) := by rw [h0.cell]; rfl
  have u18 : W0.cell? ⟨m.cb, 18, none⟩ = some (.int .i64 t.client) := by rw [h0.cell]; rfl
  have u19 : W0.cell? ⟨m.cb, 19, none⟩ = some (.string ⟨t.tok.toArray⟩) := by rw [h0.cell]; rfl
  have uf := h0.fz
  have ut := h0.t0 hw3
  have uo := h0.o0 hr
  have hcs : m.cb ≠ w.heap.size := Nat.ne_of_lt H.cl.lt
  have htc : m.tb ≠ m.cb := ne_ty h0.tk.tk h0.row (by decide)
  have hoc : m.ob ≠ m.cb := ne_ty h0.ow.tk h0.row (by decide)
  obtain ⟨c1', bx1⟩ := noted_cl h0 wn
  obtain ⟨W1, hW1⟩ : ∃ W1, W1 = noted W0 m t wn := ⟨_, rfl⟩
  rw [← hW1] at c1' bx1
  have O1 : OpAt W1 w.heap.size kd r0 t0 a0 b0 c0 s0 := O0.on (bx1.oth _ (Ne.symm hcs) ⟨_, O0.blk⟩)
  have htkl : tk.length = t.n := by have := H.tok; simp only [isTok, Bool.and_eq_true, beq_iff_eq] at this; exact this.1
  have HASK := hid (asks_ev m.cb m.xb (m.b r) r t.n r m.cx t.mode (t.p r) (t.x r) H.xs m.xa _ _ _ _ _ _ _ W1 t.said t.err t.last t.lg t.st m.ol t.nevs t.nwire t.nacks wn (t.toks wn) kd r0 t0 a0 b0 c0 s0 ⟨tk.toArray⟩ c it v hk hn3 hr hr (by rw [bs_size, htkl]; unfold maxLen; omega) c1'.tab H.c0 H.c1 H.i0 H.i1 H.v0 H.v1 c1'.row c1'.xs.xs (c1'.xs.xr r hr) (c1'.xs.rep r hr))
  rw [bs_data] at HASK
  have HH := hid H
  have C0 := hid (And.intro h0 (And.intro B0 O0))
  have C1 := hid (And.intro c1' (And.intro bx1 O1))
  have HW0 := hid hW0
  have HW1 : Hid (W1 = (W0.setCell ⟨m.cb, 18, none⟩ (.int .i64 wn)).setCell ⟨m.cb, 19, none⟩ (.string ⟨(t.toks wn).toArray⟩)) := hW1
  have HTK := hid htk
  have HTL := hid htkl
  have HMD := hid hmd
  clear H h0 B0 O0 c1' bx1 O1 hW0 hW1 htk htkl hmd
  rw [HTK.out] at HASK
  unfold opArr at *
  go_enter Tryz.func63, Tryz.ntmps63
  go_wp2_with fail
  rw [← HW0.out]
  refine (HA.out _).mono ?_
  rintro e w1 ⟨rfl, hw⟩
  rw [hw]; clear hw w1
  go_wp2_with fail
  refine (HB.out _).mono ?_
  rintro e w1 ⟨rfl, hw⟩
  rw [hw]; clear hw w1
  go_wp2_with fail
  refine (HC.out _).mono ?_
  rintro e w1 ⟨rfl, hw⟩
  rw [hw]; clear hw w1
  go_wp2_with fail
  refine (HT.out _).mono ?_
  rintro e w1 ⟨rfl, hw⟩
  rw [hw]; clear hw w1
  go_wp2_with fail
  refine (zeros_any t.n _ hn3).mono ?_
  rintro e w1 ⟨rfl, hw⟩
  rw [hw]; clear hw w1
  go_wp2_with fail
  rw [← HW1.out]
  rw [← HTK.out]
  rw [← HTK.out] at HASK
  refine HASK.out.mono ?_
  rintro e w2 ⟨he, rep2, bx2⟩
  rw [HEE.out] at he
  have hne : evErr r t.n (t.p r) tk ≠ 0 := by rw [HEE.out]; decide
  have eP : askTo r t.n (t.p r) kd c it v tk = t.p r := by unfold askTo; rw [if_neg hne]
  have eX : askX r t.n (t.p r) (t.x r) kd c it v tk = t.x r := by unfold askX; rw [if_neg hne]
  have eT : evTok r t.n (t.p r) (askTo r t.n (t.p r) kd c it v tk) tk = [] := by unfold evTok; rw [if_neg hne]
  rw [eT] at he
  rw [eP, eX] at rep2
  have c2 := C1.out.1.rep_to hr bx2 rep2
  change ClAt w2 m { t with client := (wn : Int), tok := t.toks wn, p := upd t.p r (t.p r), x := upd t.x r (t.x r) } at c2
  rw [upd_self, upd_self] at c2
  clear eP eX eT rep2 hne
  subst he
  have O2 : OpAt w2 w.heap.size kd r0 t0 a0 b0 c0 s0 := C1.out.2.2.on (bx2.oth _ (fun e => by have := lt_of_blk (HH.out.cl.xs.rep r hr); omega) ⟨_, C1.out.2.2.blk⟩)
  have v10 : w2.cell? ⟨m.cb, 10, none⟩ = some (.int .i64 t.err) := by rw [c2.cell]; rfl
  have vf := c2.fz
  obtain ⟨c3, bx3⟩ := err_cl c2 4
  obtain ⟨W3, hW3⟩ : ∃ W3, W3 = w2.setCell ⟨m.cb, 10, none⟩ (.int .i64 4) := ⟨_, rfl⟩
  rw [← hW3] at c3 bx3
  have O3 : OpAt W3 w.heap.size kd r0 t0 a0 b0 c0 s0 := O2.on (bx3.oth _ (Ne.symm hcs) ⟨_, O2.blk⟩)
  have HST := hid (stale_cl c3 hr tk HH.out.tok)
  have C3 := hid (And.intro c3 (And.intro (Kp.tr (C1.out.2.1.kp HH.out.cl.oc) (Kp.tr (bx2.kp (HH.out.cl.xs.ob r hr)) (bx3.kp HH.out.cl.oc))) O3))
  have HW3 := hid hW3
  clear c2 c3 bx2 bx3 O2 O3 hW3 u0 u1 u7 u8 u18 u19 uf ut uo f0 f1 f2 f3 f4 f5 f6
  go_wp2_with fail
  rw [← HW3.out]
  refine HST.out.mono ?_
  rintro e w4 ⟨he, b4⟩
  have he2 : e = .returned (.bool false) := by rw [he]; exact congrArg (fun b => Ending.returned (.bool b)) HSV.out
  clear he
  subst he2
  have c4 := C3.out.1.blw b4
  have O4 : OpAt w4 w.heap.size kd r0 t0 a0 b0 c0 s0 := C3.out.2.2.on (b4.bk _ (lt_of_blk C3.out.2.2.blk))
  obtain ⟨f0, f1, f2, f3, f4, f5, f6⟩ := O4.cells
  have u0 : w4.cell? ⟨m.cb, 0, none⟩ = some (.int .i64 t.n) := by rw [c4.cell]; rfl
  have u3 : w4.cell? ⟨m.cb, 3, none⟩ = some (.slice (some ⟨m.kb, 0, none⟩) t.n m.ck) := by rw [c4.cell]; rfl
  have uk : w4.cell? ⟨m.kb, r, none⟩ = some (.slice (some ⟨m.g r, 0, none⟩) t.n t.n) := c4.k0 hr
  have ug : w4.cell? ⟨m.g r, r, none⟩ = some (.int .i64 (t.K r r)) := c4.g0 hr hr
  have C4 := hid (And.intro c4 (And.intro (C3.out.2.1.tr (b4.kp _)) O4))
  clear c4 O4 b4
  rw [hK] at ug
  have u9 : w4.cell? ⟨m.cb, 9, none⟩ = some (.string ⟨#[]⟩) := by rw [C4.out.1.cell, ← show (⟨t.said.toArray⟩ : ByteArray) = ⟨#[]⟩ by rw [HH.out.said]]; rfl
  have HSTL := hid (still_cl C4.out.1 hr HH.out.pok)
  go_wp2_with fail
  refine HSTL.out.mono ?_
  rintro e w5 ⟨he, b5⟩
  have he2 : e = .returned (.bool true) := by
    rw [he]
    have e1 : ((t.x r).log == t.lg) = true := by rw [HH.out.lg]; exact beq_self_eq_true _
    have e2 : (stL (t.p r) t.n == t.st) = true := by rw [HH.out.st]; exact beq_self_eq_true _
    show Ending.returned (.bool (((t.x r).log == t.lg) && (stL (t.p r) t.n == t.st))) = _
    rw [e1, e2]; rfl
  clear he
  subst he2
  have c5 := C4.out.1.blw b5
  have v9 : w5.cell? ⟨m.cb, 9, none⟩ = some (.string ⟨#[]⟩) := by rw [c5.cell, ← show (⟨t.said.toArray⟩ : ByteArray) = ⟨#[]⟩ by rw [HH.out.said]]; rfl
  have FIN : Hid (F w5) := by
    show F w5
    rw [HF.out]
    exact ⟨m, c5, ((C0.out.2.1.kp _).tr (C4.out.2.1)).tr (b5.kp _), fun k hk => .inl hk, rfl, fun k hk => hk⟩
  clear c5 b5 u0 u3 uk ug u9 f0 f1 f2 f3 f4 f5 f6
  go_wp2
  go_ret
  exact ⟨rfl, FIN.out⟩

end Go.Proofs.YtalaldfgjgpacaaGreatDoor

namespace Go.Proofs.YtalaldfgjgpacaaGreatDoor
set_option linter.unusedVariables false
set_option linter.unusedSimpArgs false
open Go.RowKit
attribute [local go_sem ↓] Go.wp_at_zero Go.wp_at_succ

set_option maxRecDepth 100000 in
set_option maxHeartbeats 8000000 in
theorem call_stale1 {w : World} {m : CM} {t : CS} {r wn : Nat} {kd r0 t0 a0 b0 c0 c it v : Int} {s0 : ByteArray} {tk : Bs} (H : CallPre w m t r wn kd c it v tk) (hk : 3 ≤ kd ∧ kd ≤ 6) (hmd : t.mode = 1) (htk : tk = t.owns r) (hsv : staleK (vecL t.n (t.K r)) tk t.n = true) (hee : evErr r t.n (t.p r) tk = 3)
   (hA : ∀ wx, Calls Tryz.prog 21 #[.int .i64 a0, .int .i64 3] wx fun e w' => e = .returned (.int .i64 c) ∧ w' = wx)
   (hB : ∀ wx, Calls Tryz.prog 21 #[.int .i64 b0, .int .i64 4] wx fun e w' => e = .returned (.int .i64 it) ∧ w' = wx)
   (hC : ∀ wx, Calls Tryz.prog 21 #[.int .i64 c0, .int .i64 199] wx fun e w' => e = .returned (.int .i64 (v + 99)) ∧ w' = wx)
   (hT : ∀ wx, Calls Tryz.prog 21 #[.int .i64 t0, .int .i64 3] wx fun e w' => e = .returned (.int .i64 wn) ∧ w' = wx) :
    Calls Tryz.prog 63 #[.pointer (some ⟨m.cb, 0, none⟩), .int .i64 r, .agg (opArr kd r0 t0 a0 b0 c0 s0)] w fun e w' => e = .returned (.bool true) ∧ ∃ m', Moved w w' m m' (t.refused wn 3) := by
  have HA := hid hA
  have HB := hid hB
  have HC := hid hC
  have HT := hid hT
  have hr := H.hr
  have hw3 := H.hw
  have hn3 := H.cl.n3
  have hc0 := H.c0
  have hc1 := H.c1
  have hi0 := H.i0
  have hi1 := H.i1
  have hv0 := H.v0
  have hv1 := H.v1
  have HEE := hid hee
  have HSV := hid hsv
  obtain ⟨F, hF⟩ : ∃ F : World → Prop, F = fun w' => ∃ m', Moved w w' m m' (t.refused wn 3) := ⟨_, rfl⟩
  rw [show (fun e w' => e = Ending.returned (.bool true) ∧ ∃ m', Moved w w' m m' (t.refused wn 3)) = fun e w' => e = Ending.returned (.bool true) ∧ F w' by rw [hF]]
  have HF := hid hF
  clear hF hA hB hC hT hee hsv
  obtain ⟨W0, hW0⟩ : ∃ W0, W0 = w.alloc (.cells (opArr kd r0 t0 a0 b0 c0 s0) 46) := ⟨_, rfl⟩
  have B0 : Blw w W0 := by rw [hW0]; exact (Blw.rfl w).al _
  have h0 := H.cl.blw B0
  have O0 : OpAt W0 w.heap.size kd r0 t0 a0 b0 c0 s0 := ⟨by rw [hW0]; exact hp_new w _⟩
  obtain ⟨f0, f1, f2, f3, f4, f5, f6⟩ := O0.cells
  have u0 : W0.cell? ⟨m.cb, 0, none⟩ = some (.int .i64 t.n) := by rw [h0.cell]; rfl
  have u1 : W0.cell? ⟨m.cb, 1, none⟩ = some (.int .i64 1) := by rw [h0.cell, ← hmd]; rfl
  have u7 : W0.cell? ⟨m.cb, 7, none⟩ = some (.slice (some ⟨m.tb, 0, none⟩) 3 m.ct) := by rw [h0.cell]; rfl
  have u8 : W0.cell? ⟨m.cb, 8, none⟩ = some (.slice (some ⟨m.ob, 0, none⟩) t.n m.co) := by rw [h0.cell]; rfl
  have u18 : W0.cell? ⟨m.cb, 18, none⟩ = some (.int .i64 t.client) := by rw [h0.cell]; rfl
  have u19 : W0.cell? ⟨m.cb, 19, none⟩ = some (.string ⟨t.tok.toArray⟩) := by rw [h0.cell]; rfl
  have uf := h0.fz
  have ut := h0.t0 hw3
  have uo := h0.o0 hr
  have hcs : m.cb ≠ w.heap.size := Nat.ne_of_lt H.cl.lt
  have htc : m.tb ≠ m.cb := ne_ty h0.tk.tk h0.row (by decide)
  have hoc : m.ob ≠ m.cb := ne_ty h0.ow.tk h0.row (by decide)
  obtain ⟨c1', bx1⟩ := noted_cl h0 wn
  obtain ⟨W1, hW1⟩ : ∃ W1, W1 = noted W0 m t wn := ⟨_, rfl⟩
  rw [← hW1] at c1' bx1
  have O1 : OpAt W1 w.heap.size kd r0 t0 a0 b0 c0 s0 := O0.on (bx1.oth _ (Ne.symm hcs) ⟨_, O0.blk⟩)
  have htkl : tk.length = t.n := by have := H.tok; simp only [isTok, Bool.and_eq_true, beq_iff_eq] at this; exact this.1
  have HASK := hid (asks_ev m.cb m.xb (m.b r) r t.n r m.cx t.mode (t.p r) (t.x r) H.xs m.xa _ _ _ _ _ _ _ W1 t.said t.err t.last t.lg t.st m.ol t.nevs t.nwire t.nacks wn (t.toks wn) kd r0 t0 a0 b0 c0 s0 ⟨tk.toArray⟩ c it v hk hn3 hr hr (by rw [bs_size, htkl]; unfold maxLen; omega) c1'.tab H.c0 H.c1 H.i0 H.i1 H.v0 H.v1 c1'.row c1'.xs.xs (c1'.xs.xr r hr) (c1'.xs.rep r hr))
  rw [bs_data] at HASK
  have HH := hid H
  have C0 := hid (And.intro h0 (And.intro B0 O0))
  have C1 := hid (And.intro c1' (And.intro bx1 O1))
  have HW0 := hid hW0
  have HW1 : Hid (W1 = (W0.setCell ⟨m.cb, 18, none⟩ (.int .i64 wn)).setCell ⟨m.cb, 19, none⟩ (.string ⟨(t.toks wn).toArray⟩)) := hW1
  have HTK := hid htk
  have HTL := hid htkl
  have HMD := hid hmd
  clear H h0 B0 O0 c1' bx1 O1 hW0 hW1 htk htkl hmd
  rw [HTK.out] at HASK
  unfold opArr at *
  go_enter Tryz.func63, Tryz.ntmps63
  go_wp2_with fail
  rw [← HW0.out]
  refine (HA.out _).mono ?_
  rintro e w1 ⟨rfl, hw⟩
  rw [hw]; clear hw w1
  go_wp2_with fail
  refine (HB.out _).mono ?_
  rintro e w1 ⟨rfl, hw⟩
  rw [hw]; clear hw w1
  go_wp2_with fail
  refine (HC.out _).mono ?_
  rintro e w1 ⟨rfl, hw⟩
  rw [hw]; clear hw w1
  go_wp2_with fail
  refine (HT.out _).mono ?_
  rintro e w1 ⟨rfl, hw⟩
  rw [hw]; clear hw w1
  go_wp2_with fail
  refine (zeros_any t.n _ hn3).mono ?_
  rintro e w1 ⟨rfl, hw⟩
  rw [hw]; clear hw w1
  go_wp2_with fail
  rw [← HW1.out]
  rw [← HTK.out]
  rw [← HTK.out] at HASK
  refine HASK.out.mono ?_
  rintro e w2 ⟨he, rep2, bx2⟩
  rw [HEE.out] at he
  have hne : evErr r t.n (t.p r) tk ≠ 0 := by rw [HEE.out]; decide
  have eP : askTo r t.n (t.p r) kd c it v tk = t.p r := by unfold askTo; rw [if_neg hne]
  have eX : askX r t.n (t.p r) (t.x r) kd c it v tk = t.x r := by unfold askX; rw [if_neg hne]
  have eT : evTok r t.n (t.p r) (askTo r t.n (t.p r) kd c it v tk) tk = [] := by unfold evTok; rw [if_neg hne]
  rw [eT] at he
  rw [eP, eX] at rep2
  have c2 := C1.out.1.rep_to hr bx2 rep2
  change ClAt w2 m { t with client := (wn : Int), tok := t.toks wn, p := upd t.p r (t.p r), x := upd t.x r (t.x r) } at c2
  rw [upd_self, upd_self] at c2
  clear eP eX eT rep2 hne
  subst he
  have O2 : OpAt w2 w.heap.size kd r0 t0 a0 b0 c0 s0 := C1.out.2.2.on (bx2.oth _ (fun e => by have := lt_of_blk (HH.out.cl.xs.rep r hr); omega) ⟨_, C1.out.2.2.blk⟩)
  have v10 : w2.cell? ⟨m.cb, 10, none⟩ = some (.int .i64 t.err) := by rw [c2.cell]; rfl
  have vf := c2.fz
  obtain ⟨c3, bx3⟩ := err_cl c2 3
  obtain ⟨W3, hW3⟩ : ∃ W3, W3 = w2.setCell ⟨m.cb, 10, none⟩ (.int .i64 3) := ⟨_, rfl⟩
  rw [← hW3] at c3 bx3
  have O3 : OpAt W3 w.heap.size kd r0 t0 a0 b0 c0 s0 := O2.on (bx3.oth _ (Ne.symm hcs) ⟨_, O2.blk⟩)
  have HST := hid (stale_cl c3 hr tk HH.out.tok)
  have C3 := hid (And.intro c3 (And.intro (Kp.tr (C1.out.2.1.kp HH.out.cl.oc) (Kp.tr (bx2.kp (HH.out.cl.xs.ob r hr)) (bx3.kp HH.out.cl.oc))) O3))
  have HW3 := hid hW3
  clear c2 c3 bx2 bx3 O2 O3 hW3 u0 u1 u7 u8 u18 u19 uf ut uo f0 f1 f2 f3 f4 f5 f6
  go_wp2_with fail
  rw [← HW3.out]
  refine HST.out.mono ?_
  rintro e w4 ⟨he, b4⟩
  have he2 : e = .returned (.bool true) := by rw [he]; exact congrArg (fun b => Ending.returned (.bool b)) HSV.out
  clear he
  subst he2
  have c4 := C3.out.1.blw b4
  have O4 : OpAt w4 w.heap.size kd r0 t0 a0 b0 c0 s0 := C3.out.2.2.on (b4.bk _ (lt_of_blk C3.out.2.2.blk))
  obtain ⟨f0, f1, f2, f3, f4, f5, f6⟩ := O4.cells
  have u0 : w4.cell? ⟨m.cb, 0, none⟩ = some (.int .i64 t.n) := by rw [c4.cell]; rfl
  have u3 : w4.cell? ⟨m.cb, 3, none⟩ = some (.slice (some ⟨m.kb, 0, none⟩) t.n m.ck) := by rw [c4.cell]; rfl
  have uk : w4.cell? ⟨m.kb, r, none⟩ = some (.slice (some ⟨m.g r, 0, none⟩) t.n t.n) := c4.k0 hr
  have ug : w4.cell? ⟨m.g r, r, none⟩ = some (.int .i64 (t.K r r)) := c4.g0 hr hr
  have C4 := hid (And.intro c4 (And.intro (C3.out.2.1.tr (b4.kp _)) O4))
  clear c4 O4 b4
  have u9 : w4.cell? ⟨m.cb, 9, none⟩ = some (.string ⟨#[]⟩) := by rw [C4.out.1.cell, ← show (⟨t.said.toArray⟩ : ByteArray) = ⟨#[]⟩ by rw [HH.out.said]]; rfl
  have HSTL := hid (still_cl C4.out.1 hr HH.out.pok)
  go_wp2_with fail
  refine HSTL.out.mono ?_
  rintro e w5 ⟨he, b5⟩
  have he2 : e = .returned (.bool true) := by
    rw [he]
    have e1 : ((t.x r).log == t.lg) = true := by rw [HH.out.lg]; exact beq_self_eq_true _
    have e2 : (stL (t.p r) t.n == t.st) = true := by rw [HH.out.st]; exact beq_self_eq_true _
    show Ending.returned (.bool (((t.x r).log == t.lg) && (stL (t.p r) t.n == t.st))) = _
    rw [e1, e2]; rfl
  clear he
  subst he2
  have c5 := C4.out.1.blw b5
  have v9 : w5.cell? ⟨m.cb, 9, none⟩ = some (.string ⟨#[]⟩) := by rw [c5.cell, ← show (⟨t.said.toArray⟩ : ByteArray) = ⟨#[]⟩ by rw [HH.out.said]]; rfl
  have FIN : Hid (F w5) := by
    show F w5
    rw [HF.out]
    exact ⟨m, c5, ((C0.out.2.1.kp _).tr (C4.out.2.1)).tr (b5.kp _), fun k hk => .inl hk, rfl, fun k hk => hk⟩
  clear c5 b5 u0 u3 uk ug u9 f0 f1 f2 f3 f4 f5 f6
  go_wp2
  go_ret
  exact ⟨rfl, FIN.out⟩

set_option maxRecDepth 100000 in
set_option maxHeartbeats 8000000 in
theorem call_full1 {w : World} {m : CM} {t : CS} {r wn : Nat} {kd r0 t0 a0 b0 c0 c it v : Int} {s0 : ByteArray} {tk : Bs} (H : CallPre w m t r wn kd c it v tk) (hk : 3 ≤ kd ∧ kd ≤ 6) (hmd : t.mode = 1) (htk : tk = t.owns r) (hsv : staleK (vecL t.n (t.K r)) tk t.n = false) (hK : t.K r r = 9) (hee : evErr r t.n (t.p r) tk = 4)
   (hA : ∀ wx, Calls Tryz.prog 21 #[.int .i64 a0, .int .i64 3] wx fun e w' => e = .returned (.int .i64 c) ∧ w' = wx)
   (hB : ∀ wx, Calls Tryz.prog 21 #[.int .i64 b0, .int .i64 4] wx fun e w' => e = .returned (.int .i64 it) ∧ w' = wx)
   (hC : ∀ wx, Calls Tryz.prog 21 #[.int .i64 c0, .int .i64 199] wx fun e w' => e = .returned (.int .i64 (v + 99)) ∧ w' = wx)
   (hT : ∀ wx, Calls Tryz.prog 21 #[.int .i64 t0, .int .i64 3] wx fun e w' => e = .returned (.int .i64 wn) ∧ w' = wx) :
    Calls Tryz.prog 63 #[.pointer (some ⟨m.cb, 0, none⟩), .int .i64 r, .agg (opArr kd r0 t0 a0 b0 c0 s0)] w fun e w' => e = .returned (.bool true) ∧ ∃ m', Moved w w' m m' (t.refused wn 4) := by
  have HA := hid hA
  have HB := hid hB
  have HC := hid hC
  have HT := hid hT
  have hr := H.hr
  have hw3 := H.hw
  have hn3 := H.cl.n3
  have hc0 := H.c0
  have hc1 := H.c1
  have hi0 := H.i0
  have hi1 := H.i1
  have hv0 := H.v0
  have hv1 := H.v1
  have HEE := hid hee
  have HSV := hid hsv
  obtain ⟨F, hF⟩ : ∃ F : World → Prop, F = fun w' => ∃ m', Moved w w' m m' (t.refused wn 4) := ⟨_, rfl⟩
  rw [show (fun e w' => e = Ending.returned (.bool true) ∧ ∃ m', Moved w w' m m' (t.refused wn 4)) = fun e w' => e = Ending.returned (.bool true) ∧ F w' by rw [hF]]
  have HF := hid hF
  clear hF hA hB hC hT hee hsv
  obtain ⟨W0, hW0⟩ : ∃ W0, W0 = w.alloc (.cells (opArr kd r0 t0 a0 b0 c0 s0) 46) := ⟨_, rfl⟩
  have B0 : Blw w W0 := by rw [hW0]; exact (Blw.rfl w).al _
  have h0 := H.cl.blw B0
  have O0 : OpAt W0 w.heap.size kd r0 t0 a0 b0 c0 s0 := ⟨by rw [hW0]; exact hp_new w _⟩
  obtain ⟨f0, f1, f2, f3, f4, f5, f6⟩ := O0.cells
  have u0 : W0.cell? ⟨m.cb, 0, none⟩ = some (.int .i64 t.n) := by rw [h0.cell]; rfl
  have u1 : W0.cell? ⟨m.cb, 1, none⟩ = some (.int .i64 1) := by rw [h0.cell, ← hmd]; rfl
  have u7 : W0.cell? ⟨m.cb, 7, none⟩ = some (.slice (some ⟨m.tb, 0, none⟩) 3 m.ct) := by rw [h0.cell]; rfl
  have u8 : W0.cell? ⟨m.cb, 8, none⟩ = some (.slice (some ⟨m.ob, 0, none⟩) t.n m.co) := by rw [h0.cell]; rfl
  have u18 : W0.cell? ⟨m.cb, 18, none⟩ = some (.int .i64 t.client) := by rw [h0.cell]; rfl
  have u19 : W0.cell? ⟨m.cb, 19, none⟩ = some (.string ⟨t.tok.toArray⟩) := by rw [h0.cell]; rfl
  have uf := h0.fz
  have ut := h0.t0 hw3
  have uo := h0.o0 hr
  have hcs : m.cb ≠ w.heap.size := Nat.ne_of_lt H.cl.lt
  have htc : m.tb ≠ m.cb := ne_ty h0.tk.tk h0.row (by decide)
  have hoc : m.ob ≠ m.cb := ne_ty h0.ow.tk h0.row (by decide)
  obtain ⟨c1', bx1⟩ := noted_cl h0 wn
  obtain ⟨W1, hW1⟩ : ∃ W1, W1 = noted W0 m t wn := ⟨_, rfl⟩
  rw [← hW1] at c1' bx1
  have O1 : OpAt W1 w.heap.size kd r0 t0 a0 b0 c0 s0 := O0.on (bx1.oth _ (Ne.symm hcs) ⟨_, O0.blk⟩)
  have htkl : tk.length = t.n := by have := H.tok; simp only [isTok, Bool.and_eq_true, beq_iff_eq] at this; exact this.1
  have HASK := hid (asks_ev m.cb m.xb (m.b r) r t.n r m.cx t.mode (t.p r) (t.x r) H.xs m.xa _ _ _ _ _ _ _ W1 t.said t.err t.last t.lg t.st m.ol t.nevs t.nwire t.nacks wn (t.toks wn) kd r0 t0 a0 b0 c0 s0 ⟨tk.toArray⟩ c it v hk hn3 hr hr (by rw [bs_size, htkl]; unfold maxLen; omega) c1'.tab H.c0 H.c1 H.i0 H.i1 H.v0 H.v1 c1'.row c1'.xs.xs (c1'.xs.xr r hr) (c1'.xs.rep r hr))
  rw [bs_data] at HASK
  have HH := hid H
  have C0 := hid (And.intro h0 (And.intro B0 O0))
  have C1 := hid (And.intro c1' (And.intro bx1 O1))
  have HW0 := hid hW0
  have HW1 : Hid (W1 = (W0.setCell ⟨m.cb, 18, none⟩ (.int .i64 wn)).setCell ⟨m.cb, 19, none⟩ (.string ⟨(t.toks wn).toArray⟩)) := hW1
  have HTK := hid htk
  have HTL := hid htkl
  have HMD := hid hmd
  clear H h0 B0 O0 c1' bx1 O1 hW0 hW1 htk htkl hmd
  rw [HTK.out] at HASK
  unfold opArr at *
  go_enter Tryz.func63, Tryz.ntmps63
  go_wp2_with fail
  rw [← HW0.out]
  refine (HA.out _).mono ?_
  rintro e w1 ⟨rfl, hw⟩
  rw [hw]; clear hw w1
  go_wp2_with fail
  refine (HB.out _).mono ?_
  rintro e w1 ⟨rfl, hw⟩
  rw [hw]; clear hw w1
  go_wp2_with fail
  refine (HC.out _).mono ?_
  rintro e w1 ⟨rfl, hw⟩
  rw [hw]; clear hw w1
  go_wp2_with fail
  refine (HT.out _).mono ?_
  rintro e w1 ⟨rfl, hw⟩
  rw [hw]; clear hw w1
  go_wp2_with fail
  refine (zeros_any t.n _ hn3).mono ?_
  rintro e w1 ⟨rfl, hw⟩
  rw [hw]; clear hw w1
  go_wp2_with fail
  rw [← HW1.out]
  rw [← HTK.out]
  rw [← HTK.out] at HASK
  refine HASK.out.mono ?_
  rintro e w2 ⟨he, rep2, bx2⟩
  rw [HEE.out] at he
  have hne : evErr r t.n (t.p r) tk ≠ 0 := by rw [HEE.out]; decide
  have eP : askTo r t.n (t.p r) kd c it v tk = t.p r := by unfold askTo; rw [if_neg hne]
  have eX : askX r t.n (t.p r) (t.x r) kd c it v tk = t.x r := by unfold askX; rw [if_neg hne]
  have eT : evTok r t.n (t.p r) (askTo r t.n (t.p r) kd c it v tk) tk = [] := by unfold evTok; rw [if_neg hne]
  rw [eT] at he
  rw [eP, eX] at rep2
  have c2 := C1.out.1.rep_to hr bx2 rep2
  change ClAt w2 m { t with client := (wn : Int), tok := t.toks wn, p := upd t.p r (t.p r), x := upd t.x r (t.x r) } at c2
  rw [upd_self, upd_self] at c2
  clear eP eX eT rep2 hne
  subst he
  have O2 : OpAt w2 w.heap.size kd r0 t0 a0 b0 c0 s0 := C1.out.2.2.on (bx2.oth _ (fun e => by have := lt_of_blk (HH.out.cl.xs.rep r hr); omega) ⟨_, C1.out.2.2.blk⟩)
  have v10 : w2.cell? ⟨m.cb, 10, none⟩ = some (.int .i64 t.err) := by rw [c2.cell]; rfl
  have vf := c2.fz
  obtain ⟨c3, bx3⟩ := err_cl c2 4
  obtain ⟨W3, hW3⟩ : ∃ W3, W3 = w2.setCell ⟨m.cb, 10, none⟩ (.int .i64 4) := ⟨_, rfl⟩
  rw [← hW3] at c3 bx3
  have O3 : OpAt W3 w.heap.size kd r0 t0 a0 b0 c0 s0 := O2.on (bx3.oth _ (Ne.symm hcs) ⟨_, O2.blk⟩)
  have HST := hid (stale_cl c3 hr tk HH.out.tok)
  have C3 := hid (And.intro c3 (And.intro (Kp.tr (C1.out.2.1.kp HH.out.cl.oc) (Kp.tr (bx2.kp (HH.out.cl.xs.ob r hr)) (bx3.kp HH.out.cl.oc))) O3))
  have HW3 := hid hW3
  clear c2 c3 bx2 bx3 O2 O3 hW3 u0 u1 u7 u8 u18 u19 uf ut uo f0 f1 f2 f3 f4 f5 f6
  go_wp2_with fail
  rw [← HW3.out]
  refine HST.out.mono ?_
  rintro e w4 ⟨he, b4⟩
  have he2 : e = .returned (.bool false) := by rw [he]; exact congrArg (fun b => Ending.returned (.bool b)) HSV.out
  clear he
  subst he2
  have c4 := C3.out.1.blw b4
  have O4 : OpAt w4 w.heap.size kd r0 t0 a0 b0 c0 s0 := C3.out.2.2.on (b4.bk _ (lt_of_blk C3.out.2.2.blk))
  obtain ⟨f0, f1, f2, f3, f4, f5, f6⟩ := O4.cells
  have u0 : w4.cell? ⟨m.cb, 0, none⟩ = some (.int .i64 t.n) := by rw [c4.cell]; rfl
  have u3 : w4.cell? ⟨m.cb, 3, none⟩ = some (.slice (some ⟨m.kb, 0, none⟩) t.n m.ck) := by rw [c4.cell]; rfl
  have uk : w4.cell? ⟨m.kb, r, none⟩ = some (.slice (some ⟨m.g r, 0, none⟩) t.n t.n) := c4.k0 hr
  have ug : w4.cell? ⟨m.g r, r, none⟩ = some (.int .i64 (t.K r r)) := c4.g0 hr hr
  have C4 := hid (And.intro c4 (And.intro (C3.out.2.1.tr (b4.kp _)) O4))
  clear c4 O4 b4
  rw [hK] at ug
  have u9 : w4.cell? ⟨m.cb, 9, none⟩ = some (.string ⟨#[]⟩) := by rw [C4.out.1.cell, ← show (⟨t.said.toArray⟩ : ByteArray) = ⟨#[]⟩ by rw [HH.out.said]]; rfl
  have HSTL := hid (still_cl C4.out.1 hr HH.out.pok)
  go_wp2_with fail
  refine HSTL.out.mono ?_
  rintro e w5 ⟨he, b5⟩
  have he2 : e = .returned (.bool true) := by
    rw [he]
    have e1 : ((t.x r).log == t.lg) = true := by rw [HH.out.lg]; exact beq_self_eq_true _
    have e2 : (stL (t.p r) t.n == t.st) = true := by rw [HH.out.st]; exact beq_self_eq_true _
    show Ending.returned (.bool (((t.x r).log == t.lg) && (stL (t.p r) t.n == t.st))) = _
    rw [e1, e2]; rfl
  clear he
  subst he2
  have c5 := C4.out.1.blw b5
  have v9 : w5.cell? ⟨m.cb, 9, none⟩ = some (.string ⟨#[]⟩) := by rw [c5.cell, ← show (⟨t.said.toArray⟩ : ByteArray) = ⟨#[]⟩ by rw [HH.out.said]]; rfl
  have FIN : Hid (F w5) := by
    show F w5
    rw [HF.out]
    exact ⟨m, c5, ((C0.out.2.1.kp _).tr (C4.out.2.1)).tr (b5.kp _), fun k hk => .inl hk, rfl, fun k hk => hk⟩
  clear c5 b5 u0 u3 uk ug u9 f0 f1 f2 f3 f4 f5 f6
  go_wp2
  go_ret
  exact ⟨rfl, FIN.out⟩

end Go.Proofs.YtalaldfgjgpacaaGreatDoor
