import Derived.Test.YtalaldfgjgpacaaGreatDoorX6
import Derived.Deep.RegionWith
import Derived.Deep.RegionHeld3
import Derived.Deep.DeepCutAuto
import Derived.BigRegion
namespace Go.Proofs.YtalaldfgjgpacaaGreatDoor
set_option linter.unusedVariables false
set_option linter.unusedSimpArgs false
open Go.RowKit
attribute [local go_sem ↓] Go.wp_at_zero Go.wp_at_succ

set_option maxRecDepth 100000 in
set_option maxHeartbeats 8000000 in
theorem call_doneo1 {w : World} {m : CM} {t : CS} {r wn : Nat} {kd r0 t0 a0 b0 c0 c it v : Int} {s0 : ByteArray} {tk : Bs} (H : CallPre w m t r wn kd c it v tk) (hk : 3 ≤ kd ∧ kd ≤ 6) (hmd : t.mode = 1) (htk : tk = t.owns r) (hsv : staleK (vecL t.n (t.K r)) tk t.n = false) (hK : t.K r r < 9) (hee : evErr r t.n (t.p r) tk = 0) (hk4 : kd ≠ 4) (hel : t.evs.length ≤ 1000)
   (hA : ∀ wx, Calls Tryz.prog 21 #[.int .i64 a0, .int .i64 3] wx fun e w' => e = .returned (.int .i64 c) ∧ w' = wx)
   (hB : ∀ wx, Calls Tryz.prog 21 #[.int .i64 b0, .int .i64 4] wx fun e w' => e = .returned (.int .i64 it) ∧ w' = wx)
   (hC : ∀ wx, Calls Tryz.prog 21 #[.int .i64 c0, .int .i64 199] wx fun e w' => e = .returned (.int .i64 (v + 99)) ∧ w' = wx)
   (hT : ∀ wx, Calls Tryz.prog 21 #[.int .i64 t0, .int .i64 3] wx fun e w' => e = .returned (.int .i64 wn) ∧ w' = wx) :
    Calls Tryz.prog 63 #[.pointer (some ⟨m.cb, 0, none⟩), .int .i64 r, .agg (opArr kd r0 t0 a0 b0 c0 s0)] w fun e w' => e = .returned (.bool true) ∧ ∃ m', Moved w w' m m' (t.event r wn kd c it v) := by
  have HA := hid hA
  have HB := hid hB
  have HC := hid hC
  have HT := hid hT
  have hr := H.hr
  have hw3 := H.hw
  have hn3 := H.cl.n3
  have hc0 := H.c0
  have hc1 := H.c1
  have hi0 := H.i0
  have hi1 := H.i1
  have hv0 := H.v0
  have hv1 := H.v1
  have HEE := hid hee
  have HSV := hid hsv
  obtain ⟨F, hF⟩ : ∃ F : World → Prop, F = fun w' => ∃ m', Moved w w' m m' (t.event r wn kd c it v) := ⟨_, rfl⟩
  rw [show (fun e w' => e = Ending.returned (.bool true) ∧ ∃ m', Moved w w' m m' (t.event r wn kd c it v)) = fun e w' => e = Ending.returned (.bool true) ∧ F w' by rw [hF]]
  have HF := hid hF
  clear hF hA hB hC hT hee hsv
  obtain ⟨W0, hW0⟩ : ∃ W0, W0 = w.alloc (.cells (opArr kd r0 t0 a0 b0 c0 s0) 46) := ⟨_, rfl⟩
  have B0 : Blw w W0 := by rw [hW0]; exact (Blw.rfl w).al _
  have h0 := H.cl.blw B0
  have O0 : OpAt W0 w.heap.size kd r0 t0 a0 b0 c0 s0 := ⟨by rw [hW0]; exact hp_new w _⟩
  obtain ⟨f0, f1, f2, f3, f4, f5, f6⟩ := O0.cells
  have u0 : W0.cell? ⟨m.cb, 0, none⟩ = some (.int .i64 t.n) := by rw [h0.cell]; rfl
  have u1 : W0.cell? ⟨m.cb, 1, none⟩ = some (.int .i64 1) := by rw [h0.cell, ← hmd]; rfl
  have u7 : W0.cell? ⟨m.cb, 7, none⟩ = some (.slice (some ⟨m.tb, 0, none⟩) 3 m.ct) := by rw [h0.cell]; rfl
  have u8 : W0.cell? ⟨m.cb, 8, none⟩ = some (.slice (some ⟨m.ob, 0, none⟩) t.n m.co) := by rw [h0.cell]; rfl
  have u18 : W0.cell? ⟨m.cb, 18, none⟩ = some (.int .i64 t.client) := by rw [h0.cell]; rfl
  have u19 : W0.cell? ⟨m.cb, 19, none⟩ = some (.string ⟨t.tok.toArray⟩) := by rw [h0.cell]; rfl
  have uf := h0.fz
  have ut := h0.t0 hw3
  have uo := h0.o0 hr
  have hcs : m.cb ≠ w.heap.size := Nat.ne_of_lt H.cl.lt
  have htc : m.tb ≠ m.cb := ne_ty h0.tk.tk h0.row (by decide)
  have hoc : m.ob ≠ m.cb := ne_ty h0.ow.tk h0.row (by decide)
  obtain ⟨c1', bx1⟩ := noted_cl h0 wn
  obtain ⟨W1, hW1⟩ : ∃ W1, W1 = noted W0 m t wn := ⟨_, rfl⟩
  rw [← hW1] at c1' bx1
  have O1 : OpAt W1 w.heap.size kd r0 t0 a0 b0 c0 s0 := O0.on (bx1.oth _ (Ne.symm hcs) ⟨_, O0.blk⟩)
  have htkl : tk.length = t.n := by have := H.tok; simp only [isTok, Bool.and_eq_true, beq_iff_eq] at this; exact this.1
  have HASK := hid (asks_ev m.cb m.xb (m.b r) r t.n r m.cx t.mode (t.p r) (t.x r) H.xs m.xa _ _ _ _ _ _ _ W1 t.said t.err t.last t.lg t.st m.ol t.nevs t.nwire t.nacks wn (t.toks wn) kd r0 t0 a0 b0 c0 s0 ⟨tk.toArray⟩ c it v hk hn3 hr hr (by rw [bs_size, htkl]; unfold maxLen; omega) c1'.tab H.c0 H.c1 H.i0 H.i1 H.v0 H.v1 c1'.row c1'.xs.xs (c1'.xs.xr r hr) (c1'.xs.rep r hr))
  rw [bs_data] at HASK
  have HH := hid H
  have C0 := hid (And.intro h0 (And.intro B0 O0))
  have C1 := hid (And.intro c1' (And.intro bx1 O1))
  have HW0 := hid hW0
  have HW1 : Hid (W1 = (W0.setCell ⟨m.cb, 18, none⟩ (.int .i64 wn)).setCell ⟨m.cb, 19, none⟩ (.string ⟨(t.toks wn).toArray⟩)) := hW1
  have HTK := hid htk
  have HTL := hid htkl
  have HMD := hid hmd
  clear H h0 B0 O0 c1' bx1 O1 hW0 hW1 htk htkl hmd
  rw [HTK.out] at HASK
  unfold opArr at *
  go_enter Tryz.func63, Tryz.ntmps63
  go_wp2_with fail
  rw [← HW0.out]
  refine (HA.out _).mono ?_
  rintro e w1 ⟨rfl, hw⟩
  rw [hw]; clear hw w1
  go_wp2_with fail
  refine (HB.out _).mono ?_
  rintro e w1 ⟨rfl, hw⟩
  rw [hw]; clear hw w1
  go_wp2_with fail
  refine (HC.out _).mono ?_
  rintro e w1 ⟨rfl, hw⟩
  rw [hw]; clear hw w1
  go_wp2_with fail
  refine (HT.out _).mono ?_
  rintro e w1 ⟨rfl, hw⟩
  rw [hw]; clear hw w1
  go_wp2_with fail
  refine (zeros_any t.n _ hn3).mono ?_
  rintro e w1 ⟨rfl, hw⟩
  rw [hw]; clear hw w1
  go_wp2_with fail
  rw [← HW1.out]
  rw [← HTK.out]
  rw [← HTK.out] at HASK
  refine HASK.out.mono ?_
  rintro e w2 ⟨he, rep2, bx2⟩
  rw [HEE.out] at he
  have eP : askTo r t.n (t.p r) kd c it v tk = (t.p r).join (askDelta r (t.p r) kd c it v) := by unfold askTo; rw [if_pos HEE.out]
  have eX : askX r t.n (t.p r) (t.x r) kd c it v tk = (t.x r).next (askDelta r (t.p r) kd c it v) := by unfold askX; rw [if_pos HEE.out]
  have eT : evTok r t.n (t.p r) (askTo r t.n (t.p r) kd c it v tk) tk = ((t.p r).join (askDelta r (t.p r) kd c it v)).digsTo t.n := by unfold evTok; rw [if_pos HEE.out, eP]
  rw [eT] at he
  rw [eP, eX] at rep2
  have hln := digsTo_len ((t.p r).join (askDelta r (t.p r) kd c it v)) t.n
  have c2 := C1.out.1.rep_to hr bx2 rep2
  have HQ : Hid (∃ P X tx, P = (t.p r).join (askDelta r (t.p r) kd c it v) ∧ X = (t.x r).next (askDelta r (t.p r) kd c it v) ∧ tx = ((t.p r).join (askDelta r (t.p r) kd c it v)).digsTo t.n) := ⟨_, _, _, rfl, rfl, rfl⟩
  obtain ⟨P, X, tx, hP, hX, htx⟩ := HQ.out
  rw [← htx] at he hln
  change ClAt w2 m { t with client := (wn : Int), tok := t.toks wn, p := upd t.p r ((t.p r).join (askDelta r (t.p r) kd c it v)), x := upd t.x r ((t.x r).next (askDelta r (t.p r) kd c it v)) } at c2
  rw [← hP, ← hX] at c2
  have HP := hid (And.intro hP (And.intro hX htx))
  clear HQ hP hX htx eP eX eT rep2
  subst he
  have O2 : OpAt w2 w.heap.size kd r0 t0 a0 b0 c0 s0 := C1.out.2.2.on (bx2.oth _ (fun e => by have := lt_of_blk (HH.out.cl.xs.rep r hr); omega) ⟨_, C1.out.2.2.blk⟩)
  have v10 : w2.cell? ⟨m.cb, 10, none⟩ = some (.int .i64 t.err) := by rw [c2.cell]; rfl
  have vf := c2.fz
  obtain ⟨c3, bx3⟩ := err_cl c2 0
  obtain ⟨W3, hW3⟩ : ∃ W3, W3 = w2.setCell ⟨m.cb, 10, none⟩ (.int .i64 0) := ⟨_, rfl⟩
  rw [← hW3] at c3 bx3
  have O3 : OpAt W3 w.heap.size kd r0 t0 a0 b0 c0 s0 := O2.on (bx3.oth _ (Ne.symm hcs) ⟨_, O2.blk⟩)
  have HST := hid (stale_cl c3 hr tk HH.out.tok)
  have C3 := hid (And.intro c3 (And.intro (Kp.tr (C1.out.2.1.kp HH.out.cl.oc) (Kp.tr (bx2.kp (HH.out.cl.xs.ob r hr)) (bx3.kp HH.out.cl.oc))) O3))
  have HW3 := hid hW3
  clear c2 c3 bx2 bx3 O2 O3 hW3 u0 u1 u7 u8 u18 u19 uf ut uo f0 f1 f2 f3 f4 f5 f6
  go_wp2_with fail
  rw [← HW3.out]
  refine HST.out.mono ?_
  rintro e w4 ⟨he, b4⟩
  have he2 : e = .returned (.bool false) := by rw [he]; exact congrArg (fun b => Ending.returned (.bool b)) HSV.out
  clear he
  subst he2
  have c4 := C3.out.1.blw b4
  have O4 : OpAt w4 w.heap.size kd r0 t0 a0 b0 c0 s0 := C3.out.2.2.on (b4.bk _ (lt_of_blk C3.out.2.2.blk))
  obtain ⟨f0, f1, f2, f3, f4, f5, f6⟩ := O4.cells
  have u0 : w4.cell? ⟨m.cb, 0, none⟩ = some (.int .i64 t.n) := by rw [c4.cell]; rfl
  have u3 : w4.cell? ⟨m.cb, 3, none⟩ = some (.slice (some ⟨m.kb, 0, none⟩) t.n m.ck) := by rw [c4.cell]; rfl
  have uk : w4.cell? ⟨m.kb, r, none⟩ = some (.slice (some ⟨m.g r, 0, none⟩) t.n t.n) := c4.k0 hr
  have ug : w4.cell? ⟨m.g r, r, none⟩ = some (.int .i64 (t.K r r)) := c4.g0 hr hr
  have C4 := hid (And.intro c4 (And.intro (C3.out.2.1.tr (b4.kp _)) O4))
  clear c4 O4 b4
  obtain ⟨kk, hkk⟩ : ∃ kk, kk = t.K r r := ⟨_, rfl⟩
  rw [← hkk] at ug
  have hK9 : ((kk : Int) == 9) = false := by simp; omega
  have HKK := hid hkk
  have HK9 := hid hK
  clear hkk hK
  have hk7 : kd ≠ 7 := by omega
  have hvv : evVal kd v = v := by unfold evVal; rw [if_neg hk4]
  have HVV := hid hvv
  clear hvv HA HB HC HT HASK HST HTK HTL HMD HW0 HW1 HW3 HEE HSV v10 vf
  go_wp2_with fail
  refine ev_region C4.out.1 hr C4.out.2.2 HK9.out hel _ _ _ _ _ _ _ _ _ _ _ _ _ _ _ _ _ _ _ _ _ _ _ _ _ _ _ _ _ _ _ _ _ _ _ _ _ _ _ _ _ _ _ _ _ _ _ _ _ _ _ _ _ _ _ _ _ _ _ _ _ _ _ _ _ _ _ _ _ _ _ _ _ _ _ _ _ _ _ _ _ _ _ _ _ _ _ _ _ _ _ _ _ _ _ _ _ _ _ _ _ _ _ _ _ _ _ _ _ _ _ _ _ _ _ _ _ _ _ _ _ _ _ _ _ _ _ _ _ _ _ _ _ _ _ _ _ _ _ _ _ _ _ _ _ _ _ _ _ _ _ _ _ _ _ _ _ _ _ _ _ _ _ _ _ _ _ _ _ _ _ _ _ _ _ _ _ _ _ _ _ _ _ _ _ _ _ _ _ _ _ _ _ _ _ _ _ _ _ _ _ _ _ _ _ _ _ _ _ _ _ _ _ _ _ _ _ _ _ _ _ _ _ _ _ _ _ _ _ _ ?_
  rintro v165 v166 v167 v168 v169 v170 v171 v172 v173 v174 v175 v176 v177 v178 v179 v180 v181 v182 v183 v184 v185 v186 v187 v188 v189 v190 v191 v192 v193 v194 v195 v196 v197 v198 v199 w6 ⟨m6, M6⟩
  have c6 := M6.cl
  have e6 := M6.cb
  have hwr : IntKind.i64.wrap ((kk : Int) + 1) = (kk : Int) + 1 := by rw [IntKind.wrap_i64]; have := HK9.out; have := HKK.out; omega
  have u3' : w6.cell? ⟨m.cb, 3, none⟩ = some (.slice (some ⟨m6.kb, 0, none⟩) t.n m6.ck) := by rw [← e6, c6.cell]; rfl
  have uk' : w6.cell? ⟨m6.kb, r, none⟩ = some (.slice (some ⟨m6.g r, 0, none⟩) t.n t.n) := c6.k0 hr
  have ug' : w6.cell? ⟨m6.g r, r, none⟩ = some (.int .i64 kk) := by rw [HKK.out]; exact c6.g0 hr hr
  have uf' : w6.frozen? ⟨m6.g r, r, none⟩ = false := blk_frozen (c6.ks.kc r hr) r
  have hr0 : (0 : Int) ≤ (r : Int) := Int.natCast_nonneg _
  have hr1 : (r : Int) < (t.n : Int) := by omega
  have G6 := hid (And.intro M6 e6)
  clear M6 c6 e6 u0 u3 uk ug f0 f1 f2 f3 f4 f5 f6
  have up_eq : upd (t.K r) r (kk + 1) = (t.K r).up r := by
    funext q
    unfold upd Vec.up
    split
    · rename_i e; rw [e, HKK.out]
    · rfl
  have b7 : Bx (m6.g r) w6 (w6.setCell ⟨m6.g r, r, none⟩ (.int .i64 ((kk + 1 : Nat) : Int))) := (Bx.rfl _ w6).scs r [_]
  have h7 : (w6.setCell ⟨m6.g r, r, none⟩ (.int .i64 ((kk + 1 : Nat) : Int))).heap[m6.g r]? = some (.cells (intsV (vecL t.n ((t.K r).up r))) 3) := by
    rw [heap_setCell_self (G6.out.1.cl.ks.kc r hr), ← up_eq]
    exact congrArg (fun C => some (Obj.cells C 3)) (vecL_set t.n (t.K r) r (kk + 1) hr)
  have c7 := (G6.out.1.cl.vec_to hr b7 h7).blw (Blw.dr (Blw.rfl _))
  obtain ⟨W7, hW7⟩ : ∃ W7, W7 = (w6.setCell ⟨m6.g r, r, none⟩ (.int .i64 ((kk + 1 : Nat) : Int))).drew := ⟨_, rfl⟩
  rw [← hW7] at c7
  have M7 := G6.out.1.tr (⟨c7, by rw [hW7]; exact (b7.kp (G6.out.1.cl.ks.og r hr)).tr ((Blw.dr (Blw.rfl _)).kp _), fun k hk => .inl hk, rfl, fun k hk => hk⟩ : Moved w6 W7 m6 m6 _)
  have HW7 : Hid (W7 = (w6.setCell ⟨m6.g r, r, none⟩ (.int .i64 ((kk : Int) + 1))).drew) := hW7
  have b8 : Bx m6.tb W7 (W7.setCell ⟨m6.tb, wn, none⟩ (.string ⟨tx.toArray⟩)) := (Bx.rfl _ W7).scs wn [_]
  have c8 := c7.tok_to hw3 b8 (heap_setCell_self c7.tk.tk _)
  have M8 := M7.tr (Moved.mk c8 (b8.kp c7.ot) (fun k hk => Or.inl hk) rfl (fun k hk => hk))
  have b9 : Bx m6.ob (W7.setCell ⟨m6.tb, wn, none⟩ (.string ⟨tx.toArray⟩)) ((W7.setCell ⟨m6.tb, wn, none⟩ (.string ⟨tx.toArray⟩)).setCell ⟨m6.ob, r, none⟩ (.string ⟨tx.toArray⟩)) := (Bx.rfl _ _).scs r [_]
  have c9 := c8.own_to hr b9 (heap_setCell_self c8.ow.tk _)
  have M9 := M8.tr (Moved.mk c9 (b9.kp c8.oo) (fun k hk => Or.inl hk) rfl (fun k hk => hk))
  have FIN : Hid (F ((W7.setCell ⟨m6.tb, wn, none⟩ (.string ⟨tx.toArray⟩)).setCell ⟨m6.ob, r, none⟩ (.string ⟨tx.toArray⟩))) := by
    show F _
    rw [HF.out]
    have M0 : Moved w w4 m m _ := ⟨C4.out.1, (C0.out.2.1.kp _).tr C4.out.2.1, fun k hk => .inl hk, rfl, fun k hk => hk⟩
    have ML := M0.tr M9
    have key : t.event r wn kd c it v = { t with client := (wn : Int), tok := t.toks wn, p := upd t.p r P, x := upd t.x r X, err := 0, evs := t.evs ++ [⟨r, t.K r r + 1, kd, c, it, v, t.K r⟩], K := upd t.K r ((t.K r).up r), toks := upd t.toks wn tx, owns := upd t.owns r tx } := by
      rw [HP.out.1, HP.out.2.1, HP.out.2.2]; simp only [CS.event, HVV.out]
    rw [key]
    exact ⟨_, ML⟩
  have y7 : W7.cell? ⟨m.cb, 7, none⟩ = some (.slice (some ⟨m6.tb, 0, none⟩) 3 m6.ct) := by rw [← G6.out.2, c7.cell]; rfl
  have y8 : W7.cell? ⟨m.cb, 8, none⟩ = some (.slice (some ⟨m6.ob, 0, none⟩) t.n m6.co) := by rw [← G6.out.2, c7.cell]; rfl
  have yt := c7.t0 hw3
  have yo := c7.o0 hr
  have yft : W7.frozen? ⟨m6.tb, wn, none⟩ = false := blk_frozen c7.tk.tk wn
  have yfo : W7.frozen? ⟨m6.ob, r, none⟩ = false := blk_frozen c7.ow.tk r
  have nt : m6.tb ≠ m.cb := by rw [← G6.out.2]; exact ne_ty c7.tk.tk c7.row (by decide)
  have no : m6.ob ≠ m.cb := by rw [← G6.out.2]; exact ne_ty c7.ow.tk c7.row (by decide)
  have nto : m6.tb ≠ m6.ob := c7.tno
  clear up_eq b7 h7 c7 hW7 M7 b8 c8 M8 b9 c9 M9 HF HP C3 C1
  go_wp2
  go_big_region
  rw [← HW7.out]
  go_wp2
  go_ret
  exact ⟨rfl, FIN.out⟩

set_option maxRecDepth 100000 in
set_option maxHeartbeats 8000000 in
theorem call_donep1 {w : World} {m : CM} {t : CS} {r wn : Nat} {r0 t0 a0 b0 c0 c it v : Int} {s0 : ByteArray} {tk : Bs} (H : CallPre w m t r wn 4 c it v tk) (hmd : t.mode = 1) (htk : tk = t.owns r) (hsv : staleK (vecL t.n (t.K r)) tk t.n = false) (hK : t.K r r < 9) (hee : evErr r t.n (t.p r) tk = 0) (hv : 0 ≤ v) (hel : t.evs.length ≤ 1000)
   (hA : ∀ wx, Calls Tryz.prog 21 #[.int .i64 a0, .int .i64 3] wx fun e w' => e = .returned (.int .i64 c) ∧ w' = wx)
   (hB : ∀ wx, Calls Tryz.prog 21 #[.int .i64 b0, .int .i64 4] wx fun e w' => e = .returned (.int .i64 it) ∧ w' = wx)
   (hC : ∀ wx, Calls Tryz.prog 21 #[.int .i64 c0, .int .i64 199] wx fun e w' => e = .returned (.int .i64 (v + 99)) ∧ w' = wx)
   (hT : ∀ wx, Calls Tryz.prog 21 #[.int .i64 t0, .int .i64 3] wx fun e w' => e = .returned (.int .i64 wn) ∧ w' = wx) :
    Calls Tryz.prog 63 #[.pointer (some ⟨m.cb, 0, none⟩), .int .i64 r, .agg (opArr 4 r0 t0 a0 b0 c0 s0)] w fun e w' => e = .returned (.bool true) ∧ ∃ m', Moved w w' m m' (t.event r wn 4 c it v) := by
  have HA := hid hA
  have HB := hid hB
  have HC := hid hC
  have HT := hid hT
  have hr := H.hr
  have hw3 := H.hw
  have hn3 := H.cl.n3
  have hc0 := H.c0
  have hc1 := H.c1
  have hi0 := H.i0
  have hi1 := H.i1
  have hv0 := H.v0
  have hv1 := H.v1
  have HEE := hid hee
  have HSV := hid hsv
  obtain ⟨F, hF⟩ : ∃ F : World → Prop, F = fun w' => ∃ m', Moved w w' m m' (t.event r wn 4 c it v) := ⟨_, rfl⟩
  rw [show (fun e w' => e = Ending.returned (.bool true) ∧ ∃ m', Moved w w' m m' (t.event r wn 4 c it v)) = fun e w' => e = Ending.returned (.bool true) ∧ F w' by rw [hF]]
  have HF := hid hF
  clear hF hA hB hC hT hee hsv
  obtain ⟨W0, hW0⟩ : ∃ W0, W0 = w.alloc (.cells (opArr 4 r0 t0 a0 b0 c0 s0) 46) := ⟨_, rfl⟩
  have B0 : Blw w W0 := by rw [hW0]; exact (Blw.rfl w).al _
  have h0 := H.cl.blw B0
  have O0 : OpAt W0 w.heap.size 4 r0 t0 a0 b0 c0 s0 := ⟨by rw [hW0]; exact hp_new w _⟩
  obtain ⟨f0, f1, f2, f3, f4, f5, f6⟩ := O0.cells
  have u0 : W0.cell? ⟨m.cb, 0, none⟩ = some (.int .i64 t.n) := by rw [h0.cell]; rfl
  have u1 : W0.cell? ⟨m.cb, 1, none⟩ = some (.int .i64 1) := by rw [h0.cell, ← hmd]; rfl
  have u7 : W0.cell? ⟨m.cb, 7, none⟩ = some (.slice (some ⟨m.tb, 0, none⟩) 3 m.ct) := by rw [h0.cell]; rfl
  have u8 : W0.cell? ⟨m.cb, 8, none⟩ = some (.slice (some ⟨m.ob, 0, none⟩) t.n m.co) := by rw [h0.cell]; rfl
  have u18 : W0.cell? ⟨m.cb, 18, none⟩ = some (.int .i64 t.client) := by rw [h0.cell]; rfl
  have u19 : W0.cell? ⟨m.cb, 19, none⟩ = some (.string ⟨t.tok.toArray⟩) := by rw [h0.cell]; rfl
  have uf := h0.fz
  have ut := h0.t0 hw3
  have uo := h0.o0 hr
  have hcs : m.cb ≠ w.heap.size := Nat.ne_of_lt H.cl.lt
  have htc : m.tb ≠ m.cb := ne_ty h0.tk.tk h0.row (by decide)
  have hoc : m.ob ≠ m.cb := ne_ty h0.ow.tk h0.row (by decide)
  obtain ⟨c1', bx1⟩ := noted_cl h0 wn
  obtain ⟨W1, hW1⟩ : ∃ W1, W1 = noted W0 m t wn := ⟨_, rfl⟩
  rw [← hW1] at c1' bx1
  have O1 : OpAt W1 w.heap.size 4 r0 t0 a0 b0 c0 s0 := O0.on (bx1.oth _ (Ne.symm hcs) ⟨_, O0.blk⟩)
  have htkl : tk.length = t.n := by have := H.tok; simp only [isTok, Bool.and_eq_true, beq_iff_eq] at this; exact this.1
  have HASK := hid (asks_ev m.cb m.xb (m.b r) r t.n r m.cx t.mode (t.p r) (t.x r) H.xs m.xa _ _ _ _ _ _ _ W1 t.said t.err t.last t.lg t.st m.ol t.nevs t.nwire t.nacks wn (t.toks wn) 4 r0 t0 a0 b0 c0 s0 ⟨tk.toArray⟩ c it v (by decide) hn3 hr hr (by rw [bs_size, htkl]; unfold maxLen; omega) c1'.tab H.c0 H.c1 H.i0 H.i1 H.v0 H.v1 c1'.row c1'.xs.xs (c1'.xs.xr r hr) (c1'.xs.rep r hr))
  rw [bs_data] at HASK
  have HH := hid H
  have C0 := hid (And.intro h0 (And.intro B0 O0))
  have C1 := hid (And.intro c1' (And.intro bx1 O1))
  have HW0 := hid hW0
  have HW1 : Hid (W1 = (W0.setCell ⟨m.cb, 18, none⟩ (.int .i64 wn)).setCell ⟨m.cb, 19, none⟩ (.string ⟨(t.toks wn).toArray⟩)) := hW1
  have HTK := hid htk
  have HTL := hid htkl
  have HMD := hid hmd
  clear H h0 B0 O0 c1' bx1 O1 hW0 hW1 htk htkl hmd
  rw [HTK.out] at HASK
  unfold opArr at *
  go_enter Tryz.func63, Tryz.ntmps63
  go_wp2_with fail
  rw [← HW0.out]
  refine (HA.out _).mono ?_
  rintro e w1 ⟨rfl, hw⟩
  rw [hw]; clear hw w1
  go_wp2_with fail
  refine (HB.out _).mono ?_
  rintro e w1 ⟨rfl, hw⟩
  rw [hw]; clear hw w1
  go_wp2_with fail
  refine (HC.out _).mono ?_
  rintro e w1 ⟨rfl, hw⟩
  rw [hw]; clear hw w1
  go_wp2_with fail
  refine (HT.out _).mono ?_
  rintro e w1 ⟨rfl, hw⟩
  rw [hw]; clear hw w1
  go_wp2_with fail
  refine (zeros_any t.n _ hn3).mono ?_
  rintro e w1 ⟨rfl, hw⟩
  rw [hw]; clear hw w1
  go_wp2_with fail
  rw [← HW1.out]
  rw [← HTK.out]
  rw [← HTK.out] at HASK
  refine HASK.out.mono ?_
  rintro e w2 ⟨he, rep2, bx2⟩
  rw [HEE.out] at he
  have eP : askTo r t.n (t.p r) 4 c it v tk = (t.p r).join (askDelta r (t.p r) 4 c it v) := by unfold askTo; rw [if_pos HEE.out]
  have eX : askX r t.n (t.p r) (t.x r) 4 c it v tk = (t.x r).next (askDelta r (t.p r) 4 c it v) := by unfold askX; rw [if_pos HEE.out]
  have eT : evTok r t.n (t.p r) (askTo r t.n (t.p r) 4 c it v tk) tk = ((t.p r).join (askDelta r (t.p r) 4 c it v)).digsTo t.n := by unfold evTok; rw [if_pos HEE.out, eP]
  rw [eT] at he
  rw [eP, eX] at rep2
  have hln := digsTo_len ((t.p r).join (askDelta r (t.p r) 4 c it v)) t.n
  have c2 := C1.out.1.rep_to hr bx2 rep2
  have HQ : Hid (∃ P X tx, P = (t.p r).join (askDelta r (t.p r) 4 c it v) ∧ X = (t.x r).next (askDelta r (t.p r) 4 c it v) ∧ tx = ((t.p r).join (askDelta r (t.p r) 4 c it v)).digsTo t.n) := ⟨_, _, _, rfl, rfl, rfl⟩
  obtain ⟨P, X, tx, hP, hX, htx⟩ := HQ.out
  rw [← htx] at he hln
  change ClAt w2 m { t with client := (wn : Int), tok := t.toks wn, p := upd t.p r ((t.p r).join (askDelta r (t.p r) 4 c it v)), x := upd t.x r ((t.x r).next (askDelta r (t.p r) 4 c it v)) } at c2
  rw [← hP, ← hX] at c2
  have HP := hid (And.intro hP (And.intro hX htx))
  clear HQ hP hX htx eP eX eT rep2
  subst he
  have O2 : OpAt w2 w.heap.size 4 r0 t0 a0 b0 c0 s0 := C1.out.2.2.on (bx2.oth _ (fun e => by have := lt_of_blk (HH.out.cl.xs.rep r hr); omega) ⟨_, C1.out.2.2.blk⟩)
  have v10 : w2.cell? ⟨m.cb, 10, none⟩ = some (.int .i64 t.err) := by rw [c2.cell]; rfl
  have vf := c2.fz
  obtain ⟨c3, bx3⟩ := err_cl c2 0
  obtain ⟨W3, hW3⟩ : ∃ W3, W3 = w2.setCell ⟨m.cb, 10, none⟩ (.int .i64 0) := ⟨_, rfl⟩
  rw [← hW3] at c3 bx3
  have O3 : OpAt W3 w.heap.size 4 r0 t0 a0 b0 c0 s0 := O2.on (bx3.oth _ (Ne.symm hcs) ⟨_, O2.blk⟩)
  have HST := hid (stale_cl c3 hr tk HH.out.tok)
  have C3 := hid (And.intro c3 (And.intro (Kp.tr (C1.out.2.1.kp HH.out.cl.oc) (Kp.tr (bx2.kp (HH.out.cl.xs.ob r hr)) (bx3.kp HH.out.cl.oc))) O3))
  have HW3 := hid hW3
  clear c2 c3 bx2 bx3 O2 O3 hW3 u0 u1 u7 u8 u18 u19 uf ut uo f0 f1 f2 f3 f4 f5 f6
  go_wp2_with fail
  rw [← HW3.out]
  refine HST.out.mono ?_
  rintro e w4 ⟨he, b4⟩
  have he2 : e = .returned (.bool false) := by rw [he]; exact congrArg (fun b => Ending.returned (.bool b)) HSV.out
  clear he
  subst he2
  have c4 := C3.out.1.blw b4
  have O4 : OpAt w4 w.heap.size 4 r0 t0 a0 b0 c0 s0 := C3.out.2.2.on (b4.bk _ (lt_of_blk C3.out.2.2.blk))
  obtain ⟨f0, f1, f2, f3, f4, f5, f6⟩ := O4.cells
  have u0 : w4.cell? ⟨m.cb, 0, none⟩ = some (.int .i64 t.n) := by rw [c4.cell]; rfl
  have u3 : w4.cell? ⟨m.cb, 3, none⟩ = some (.slice (some ⟨m.kb, 0, none⟩) t.n m.ck) := by rw [c4.cell]; rfl
  have uk : w4.cell? ⟨m.kb, r, none⟩ = some (.slice (some ⟨m.g r, 0, none⟩) t.n t.n) := c4.k0 hr
  have ug : w4.cell? ⟨m.g r, r, none⟩ = some (.int .i64 (t.K r r)) := c4.g0 hr hr
  have C4 := hid (And.intro c4 (And.intro (C3.out.2.1.tr (b4.kp _)) O4))
  clear c4 O4 b4
  obtain ⟨kk, hkk⟩ : ∃ kk, kk = t.K r r := ⟨_, rfl⟩
  rw [← hkk] at ug
  have hK9 : ((kk : Int) == 9) = false := by simp; omega
  have HKK := hid hkk
  have HK9 := hid hK
  clear hkk hK
  have hvv : evVal 4 v = v := by unfold evVal; rw [if_pos rfl]; omega
  have HVV := hid hvv
  clear hvv HA HB HC HT HASK HST HTK HTL HMD HW0 HW1 HW3 HEE HSV v10 vf
  go_wp2_with fail
  refine ev_region C4.out.1 hr C4.out.2.2 HK9.out hel _ _ _ _ _ _ _ _ _ _ _ _ _ _ _ _ _ _ _ _ _ _ _ _ _ _ _ _ _ _ _ _ _ _ _ _ _ _ _ _ _ _ _ _ _ _ _ _ _ _ _ _ _ _ _ _ _ _ _ _ _ _ _ _ _ _ _ _ _ _ _ _ _ _ _ _ _ _ _ _ _ _ _ _ _ _ _ _ _ _ _ _ _ _ _ _ _ _ _ _ _ _ _ _ _ _ _ _ _ _ _ _ _ _ _ _ _ _ _ _ _ _ _ _ _ _ _ _ _ _ _ _ _ _ _ _ _ _ _ _ _ _ _ _ _ _ _ _ _ _ _ _ _ _ _ _ _ _ _ _ _ _ _ _ _ _ _ _ _ _ _ _ _ _ _ _ _ _ _ _ _ _ _ _ _ _ _ _ _ _ _ _ _ _ _ _ _ _ _ _ _ _ _ _ _ _ _ _ _ _ _ _ _ _ _ _ _ _ _ _ _ _ _ _ _ _ _ _ _ _ ?_
  rintro v165 v166 v167 v168 v169 v170 v171 v172 v173 v174 v175 v176 v177 v178 v179 v180 v181 v182 v183 v184 v185 v186 v187 v188 v189 v190 v191 v192 v193 v194 v195 v196 v197 v198 v199 w6 ⟨m6, M6⟩
  have c6 := M6.cl
  have e6 := M6.cb
  have hwr : IntKind.i64.wrap ((kk : Int) + 1) = (kk : Int) + 1 := by rw [IntKind.wrap_i64]; have := HK9.out; have := HKK.out; omega
  have u3' : w6.cell? ⟨m.cb, 3, none⟩ = some (.slice (some ⟨m6.kb, 0, none⟩) t.n m6.ck) := by rw [← e6, c6.cell]; rfl
  have uk' : w6.cell? ⟨m6.kb, r, none⟩ = some (.slice (some ⟨m6.g r, 0, none⟩) t.n t.n) := c6.k0 hr
  have ug' : w6.cell? ⟨m6.g r, r, none⟩ = some (.int .i64 kk) := by rw [HKK.out]; exact c6.g0 hr hr
  have uf' : w6.frozen? ⟨m6.g r, r, none⟩ = false := blk_frozen (c6.ks.kc r hr) r
  have hr0 : (0 : Int) ≤ (r : Int) := Int.natCast_nonneg _
  have hr1 : (r : Int) < (t.n : Int) := by omega
  have G6 := hid (And.intro M6 e6)
  clear M6 c6 e6 u0 u3 uk ug f0 f1 f2 f3 f4 f5 f6
  have up_eq : upd (t.K r) r (kk + 1) = (t.K r).up r := by
    funext q
    unfold upd Vec.up
    split
    · rename_i e; rw [e, HKK.out]
    · rfl
  have b7 : Bx (m6.g r) w6 (w6.setCell ⟨m6.g r, r, none⟩ (.int .i64 ((kk + 1 : Nat) : Int))) := (Bx.rfl _ w6).scs r [_]
  have h7 : (w6.setCell ⟨m6.g r, r, none⟩ (.int .i64 ((kk + 1 : Nat) : Int))).heap[m6.g r]? = some (.cells (intsV (vecL t.n ((t.K r).up r))) 3) := by
    rw [heap_setCell_self (G6.out.1.cl.ks.kc r hr), ← up_eq]
    exact congrArg (fun C => some (Obj.cells C 3)) (vecL_set t.n (t.K r) r (kk + 1) hr)
  have c7 := (G6.out.1.cl.vec_to hr b7 h7).blw (Blw.dr (Blw.rfl _))
  obtain ⟨W7, hW7⟩ : ∃ W7, W7 = (w6.setCell ⟨m6.g r, r, none⟩ (.int .i64 ((kk + 1 : Nat) : Int))).drew := ⟨_, rfl⟩
  rw [← hW7] at c7
  have M7 := G6.out.1.tr (⟨c7, by rw [hW7]; exact (b7.kp (G6.out.1.cl.ks.og r hr)).tr ((Blw.dr (Blw.rfl _)).kp _), fun k hk => .inl hk, rfl, fun k hk => hk⟩ : Moved w6 W7 m6 m6 _)
  have HW7 : Hid (W7 = (w6.setCell ⟨m6.g r, r, none⟩ (.int .i64 ((kk : Int) + 1))).drew) := hW7
  have b8 : Bx m6.tb W7 (W7.setCell ⟨m6.tb, wn, none⟩ (.string ⟨tx.toArray⟩)) := (Bx.rfl _ W7).scs wn [_]
  have c8 := c7.tok_to hw3 b8 (heap_setCell_self c7.tk.tk _)
  have M8 := M7.tr (Moved.mk c8 (b8.kp c7.ot) (fun k hk => Or.inl hk) rfl (fun k hk => hk))
  have b9 : Bx m6.ob (W7.setCell ⟨m6.tb, wn, none⟩ (.string ⟨tx.toArray⟩)) ((W7.setCell ⟨m6.tb, wn, none⟩ (.string ⟨tx.toArray⟩)).setCell ⟨m6.ob, r, none⟩ (.string ⟨tx.toArray⟩)) := (Bx.rfl _ _).scs r [_]
  have c9 := c8.own_to hr b9 (heap_setCell_self c8.ow.tk _)
  have M9 := M8.tr (Moved.mk c9 (b9.kp c8.oo) (fun k hk => Or.inl hk) rfl (fun k hk => hk))
  have FIN : Hid (F ((W7.setCell ⟨m6.tb, wn, none⟩ (.string ⟨tx.toArray⟩)).setCell ⟨m6.ob, r, none⟩ (.string ⟨tx.toArray⟩))) := by
    show F _
    rw [HF.out]
    have M0 : Moved w w4 m m _ := ⟨C4.out.1, (C0.out.2.1.kp _).tr C4.out.2.1, fun k hk => .inl hk, rfl, fun k hk => hk⟩
    have ML := M0.tr M9
    have key : t.event r wn 4 c it v = { t with client := (wn : Int), tok := t.toks wn, p := upd t.p r P, x := upd t.x r X, err := 0, evs := t.evs ++ [⟨r, t.K r r + 1, 4, c, it, v, t.K r⟩], K := upd t.K r ((t.K r).up r), toks := upd t.toks wn tx, owns := upd t.owns r tx } := by
      rw [HP.out.1, HP.out.2.1, HP.out.2.2]; simp only [CS.event, HVV.out]
    rw [key]
    exact ⟨_, ML⟩
  have y7 : W7.cell? ⟨m.cb, 7, none⟩ = some (.slice (some ⟨m6.tb, 0, none⟩) 3 m6.ct) := by rw [← G6.out.2, c7.cell]; rfl
  have y8 : W7.cell? ⟨m.cb, 8, none⟩ = some (.slice (some ⟨m6.ob, 0, none⟩) t.n m6.co) := by rw [← G6.out.2, c7.cell]; rfl
  have yt := c7.t0 hw3
  have yo := c7.o0 hr
  have yft : W7.frozen? ⟨m6.tb, wn, none⟩ = false := blk_frozen c7.tk.tk wn
  have yfo : W7.frozen? ⟨m6.ob, r, none⟩ = false := blk_frozen c7.ow.tk r
  have nt : m6.tb ≠ m.cb := by rw [← G6.out.2]; exact ne_ty c7.tk.tk c7.row (by decide)
  have no : m6.ob ≠ m.cb := by rw [← G6.out.2]; exact ne_ty c7.ow.tk c7.row (by decide)
  have nto : m6.tb ≠ m6.ob := c7.tno
  clear up_eq b7 h7 c7 hW7 M7 b8 c8 M8 b9 c9 M9 HF HP C3 C1
  go_wp2
  go_big_region
  rw [← HW7.out]
  go_wp2
  go_ret
  exact ⟨rfl, FIN.out⟩

set_option maxRecDepth 100000 in
set_option maxHeartbeats 8000000 in
theorem call_donen1 {w : World} {m : CM} {t : CS} {r wn : Nat} {r0 t0 a0 b0 c0 c it v : Int} {s0 : ByteArray} {tk : Bs} (H : CallPre w m t r wn 4 c it v tk) (hmd : t.mode = 1) (htk : tk = t.owns r) (hsv : staleK (vecL t.n (t.K r)) tk t.n = false) (hK : t.K r r < 9) (hee : evErr r t.n (t.p r) tk = 0) (hv : v < 0) (hel : t.evs.length ≤ 1000)
   (hA : ∀ wx, Calls Tryz.prog 21 #[.int .i64 a0, .int .i64 3] wx fun e w' => e = .returned (.int .i64 c) ∧ w' = wx)
   (hB : ∀ wx, Calls Tryz.prog 21 #[.int .i64 b0, .int .i64 4] wx fun e w' => e = .returned (.int .i64 it) ∧ w' = wx)
   (hC : ∀ wx, Calls Tryz.prog 21 #[.int .i64 c0, .int .i64 199] wx fun e w' => e = .returned (.int .i64 (v + 99)) ∧ w' = wx)
   (hT : ∀ wx, Calls Tryz.prog 21 #[.int .i64 t0, .int .i64 3] wx fun e w' => e = .returned (.int .i64 wn) ∧ w' = wx) :
    Calls Tryz.prog 63 #[.pointer (some ⟨m.cb, 0, none⟩), .int .i64 r, .agg (opArr 4 r0 t0 a0 b0 c0 s0)] w fun e w' => e = .returned (.bool true) ∧ ∃ m', Moved w w' m m' (t.event r wn 4 c it v) := by
  have HA := hid hA
  have HB := hid hB
  have HC := hid hC
  have HT := hid hT
  have hr := H.hr
  have hw3 := H.hw
  have hn3 := H.cl.n3
  have hc0 := H.c0
  have hc1 := H.c1
  have hi0 := H.i0
  have hi1 := H.i1
  have hv0 := H.v0
  have hv1 := H.v1
  have HEE := hid hee
  have HSV := hid hsv
  obtain ⟨F, hF⟩ : ∃ F : World → Prop, F = fun w' => ∃ m', Moved w w' m m' (t.event r wn 4 c it v) := ⟨_, rfl⟩
  rw [show (fun e w' => e = Ending.returned (.bool true) ∧ ∃ m', Moved w w' m m' (t.event r wn 4 c it v)) = fun e w' => e = Ending.returned (.bool true) ∧ F w' by rw [hF]]
  have HF := hid hF
  clear hF hA hB hC hT hee hsv
  obtain ⟨W0, hW0⟩ : ∃ W0, W0 = w.alloc (.cells (opArr 4 r0 t0 a0 b0 c0 s0) 46) := ⟨_, rfl⟩
  have B0 : Blw w W0 := by rw [hW0]; exact (Blw.rfl w).al _
  have h0 := H.cl.blw B0
  have O0 : OpAt W0 w.heap.size 4 r0 t0 a0 b0 c0 s0 := ⟨by rw [hW0]; exact hp_new w _⟩
  obtain ⟨f0, f1, f2, f3, f4, f5, f6⟩ := O0.cells
  have u0 : W0.cell? ⟨m.cb, 0, none⟩ = some (.int .i64 t.n) := by rw [h0.cell]; rfl
  have u1 : W0.cell? ⟨m.cb, 1, none⟩ = some (.int .i64 1) := by rw [h0.cell, ← hmd]; rfl
  have u7 : W0.cell? ⟨m.cb, 7, none⟩ = some (.slice (some ⟨m.tb, 0, none⟩) 3 m.ct) := by rw [h0.cell]; rfl
  have u8 : W0.cell? ⟨m.cb, 8, none⟩ = some (.slice (some ⟨m.ob, 0, none⟩) t.n m.co) := by rw [h0.cell]; rfl
  have u18 : W0.cell? ⟨m.cb, 18, none⟩ = some (.int .i64 t.client) := by rw [h0.cell]; rfl
  have u19 : W0.cell? ⟨m.cb, 19, none⟩ = some (.string ⟨t.tok.toArray⟩) := by rw [h0.cell]; rfl
  have uf := h0.fz
  have ut := h0.t0 hw3
  have uo := h0.o0 hr
  have hcs : m.cb ≠ w.heap.size := Nat.ne_of_lt H.cl.lt
  have htc : m.tb ≠ m.cb := ne_ty h0.tk.tk h0.row (by decide)
  have hoc : m.ob ≠ m.cb := ne_ty h0.ow.tk h0.row (by decide)
  obtain ⟨c1', bx1⟩ := noted_cl h0 wn
  obtain ⟨W1, hW1⟩ : ∃ W1, W1 = noted W0 m t wn := ⟨_, rfl⟩
  rw [← hW1] at c1' bx1
  have O1 : OpAt W1 w.heap.size 4 r0 t0 a0 b0 c0 s0 := O0.on (bx1.oth _ (Ne.symm hcs) ⟨_, O0.blk⟩)
  have htkl : tk.length = t.n := by have := H.tok; simp only [isTok, Bool.and_eq_true, beq_iff_eq] at this; exact this.1
  have HASK := hid (asks_ev m.cb m.xb (m.b r) r t.n r m.cx t.mode (t.p r) (t.x r) H.xs m.xa _ _ _ _ _ _ _ W1 t.said t.err t.last t.lg t.st m.ol t.nevs t.nwire t.nacks wn (t.toks wn) 4 r0 t0 a0 b0 c0 s0 ⟨tk.toArray⟩ c it v (by decide) hn3 hr hr (by rw [bs_size, htkl]; unfold maxLen; omega) c1'.tab H.c0 H.c1 H.i0 H.i1 H.v0 H.v1 c1'.row c1'.xs.xs (c1'.xs.xr r hr) (c1'.xs.rep r hr))
  rw [bs_data] at HASK
  have HH := hid H
  have C0 := hid (And.intro h0 (And.intro B0 O0))
  have C1 := hid (And.intro c1' (And.intro bx1 O1))
  have HW0 := hid hW0
  have HW1 : Hid (W1 = (W0.setCell ⟨m.cb, 18, none⟩ (.int .i64 wn)).setCell ⟨m.cb, 19, none⟩ (.string ⟨(t.toks wn).toArray⟩)) := hW1
  have HTK := hid htk
  have HTL := hid htkl
  have HMD := hid hmd
  clear H h0 B0 O0 c1' bx1 O1 hW0 hW1 htk htkl hmd
  rw [HTK.out] at HASK
  unfold opArr at *
  go_enter Tryz.func63, Tryz.ntmps63
  go_wp2_with fail
  rw [← HW0.out]
  refine (HA.out _).mono ?_
  rintro e w1 ⟨rfl, hw⟩
  rw [hw]; clear hw w1
  go_wp2_with fail
  refine (HB.out _).mono ?_
  rintro e w1 ⟨rfl, hw⟩
  rw [hw]; clear hw w1
  go_wp2_with fail
  refine (HC.out _).mono ?_
  rintro e w1 ⟨rfl, hw⟩
  rw [hw]; clear hw w1
  go_wp2_with fail
  refine (HT.out _).mono ?_
  rintro e w1 ⟨rfl, hw⟩
  rw [hw]; clear hw w1
  go_wp2_with fail
  refine (zeros_any t.n _ hn3).mono ?_
  rintro e w1 ⟨rfl, hw⟩
  rw [hw]; clear hw w1
  go_wp2_with fail
  rw [← HW1.out]
  rw [← HTK.out]
  rw [← HTK.out] at HASK
  refine HASK.out.mono ?_
  rintro e w2 ⟨he, rep2, bx2⟩
  rw [HEE.out] at he
  have eP : askTo r t.n (t.p r) 4 c it v tk = (t.p r).join (askDelta r (t.p r) 4 c it v) := by unfold askTo; rw [if_pos HEE.out]
  have eX : askX r t.n (t.p r) (t.x r) 4 c it v tk = (t.x r).next (askDelta r (t.p r) 4 c it v) := by unfold askX; rw [if_pos HEE.out]
  have eT : evTok r t.n (t.p r) (askTo r t.n (t.p r) 4 c it v tk) tk = ((t.p r).join (askDelta r (t.p r) 4 c it v)).digsTo t.n := by unfold evTok; rw [if_pos HEE.out, eP]
  rw [eT] at he
  rw [eP, eX] at rep2
  have hln := digsTo_len ((t.p r).join (askDelta r (t.p r) 4 c it v)) t.n
  have c2 := C1.out.1.rep_to hr bx2 rep2
  have HQ : Hid (∃ P X tx, P = (t.p r).join (askDelta r (t.p r) 4 c it v) ∧ X = (t.x r).next (askDelta r (t.p r) 4 c it v) ∧ tx = ((t.p r).join (askDelta r (t.p r) 4 c it v)).digsTo t.n) := ⟨_, _, _, rfl, rfl, rfl⟩
  obtain ⟨P, X, tx, hP, hX, htx⟩ := HQ.out
  rw [← htx] at he hln
  change ClAt w2 m { t with client := (wn : Int), tok := t.toks wn, p := upd t.p r ((t.p r).join (askDelta r (t.p r) 4 c it v)), x := upd t.x r ((t.x r).next (askDelta r (t.p r) 4 c it v)) } at c2
  rw [← hP, ← hX] at c2
  have HP := hid (And.intro hP (And.intro hX htx))
  clear HQ hP hX htx eP eX eT rep2
  subst he
  have O2 : OpAt w2 w.heap.size 4 r0 t0 a0 b0 c0 s0 := C1.out.2.2.on (bx2.oth _ (fun e => by have := lt_of_blk (HH.out.cl.xs.rep r hr); omega) ⟨_, C1.out.2.2.blk⟩)
  have v10 : w2.cell? ⟨m.cb, 10, none⟩ = some (.int .i64 t.err) := by rw [c2.cell]; rfl
  have vf := c2.fz
  obtain ⟨c3, bx3⟩ := err_cl c2 0
  obtain ⟨W3, hW3⟩ : ∃ W3, W3 = w2.setCell ⟨m.cb, 10, none⟩ (.int .i64 0) := ⟨_, rfl⟩
  rw [← hW3] at c3 bx3
  have O3 : OpAt W3 w.heap.size 4 r0 t0 a0 b0 c0 s0 := O2.on (bx3.oth _ (Ne.symm hcs) ⟨_, O2.blk⟩)
  have HST := hid (stale_cl c3 hr tk HH.out.tok)
  have C3 := hid (And.intro c3 (And.intro (Kp.tr (C1.out.2.1.kp HH.out.cl.oc) (Kp.tr (bx2.kp (HH.out.cl.xs.ob r hr)) (bx3.kp HH.out.cl.oc))) O3))
  have HW3 := hid hW3
  clear c2 c3 bx2 bx3 O2 O3 hW3 u0 u1 u7 u8 u18 u19 uf ut uo f0 f1 f2 f3 f4 f5 f6
  go_wp2_with fail
  rw [← HW3.out]
  refine HST.out.mono ?_
  rintro e w4 ⟨he, b4⟩
  have he2 : e = .returned (.bool false) := by rw [he]; exact congrArg (fun b => Ending.returned (.bool b)) HSV.out
  clear he
  subst he2
  have c4 := C3.out.1.blw b4
  have O4 : OpAt w4 w.heap.size 4 r0 t0 a0 b0 c0 s0 := C3.out.2.2.on (b4.bk _ (lt_of_blk C3.out.2.2.blk))
  obtain ⟨f0, f1, f2, f3, f4, f5, f6⟩ := O4.cells
  have u0 : w4.cell? ⟨m.cb, 0, none⟩ = some (.int .i64 t.n) := by rw [c4.cell]; rfl
  have u3 : w4.cell? ⟨m.cb, 3, none⟩ = some (.slice (some ⟨m.kb, 0, none⟩) t.n m.ck) := by rw [c4.cell]; rfl
  have uk : w4.cell? ⟨m.kb, r, none⟩ = some (.slice (some ⟨m.g r, 0, none⟩) t.n t.n) := c4.k0 hr
  have ug : w4.cell? ⟨m.g r, r, none⟩ = some (.int .i64 (t.K r r)) := c4.g0 hr hr
  have C4 := hid (And.intro c4 (And.intro (C3.out.2.1.tr (b4.kp _)) O4))
  clear c4 O4 b4
  obtain ⟨kk, hkk⟩ : ∃ kk, kk = t.K r r := ⟨_, rfl⟩
  rw [← hkk] at ug
  have hK9 : ((kk : Int) == 9) = false := by simp; omega
  have HKK := hid hkk
  have HK9 := hid hK
  clear hkk hK
  have hvv : evVal 4 v = -v := by unfold evVal; rw [if_pos rfl]; omega
  have HVV := hid hvv
  clear hvv HA HB HC HT HASK HST HTK HTL HMD HW0 HW1 HW3 HEE HSV v10 vf
  go_wp2_with fail
  refine ev_region C4.out.1 hr C4.out.2.2 HK9.out hel _ _ _ _ _ _ _ _ _ _ _ _ _ _ _ _ _ _ _ _ _ _ _ _ _ _ _ _ _ _ _ _ _ _ _ _ _ _ _ _ _ _ _ _ _ _ _ _ _ _ _ _ _ _ _ _ _ _ _ _ _ _ _ _ _ _ _ _ _ _ _ _ _ _ _ _ _ _ _ _ _ _ _ _ _ _ _ _ _ _ _ _ _ _ _ _ _ _ _ _ _ _ _ _ _ _ _ _ _ _ _ _ _ _ _ _ _ _ _ _ _ _ _ _ _ _ _ _ _ _ _ _ _ _ _ _ _ _ _ _ _ _ _ _ _ _ _ _ _ _ _ _ _ _ _ _ _ _ _ _ _ _ _ _ _ _ _ _ _ _ _ _ _ _ _ _ _ _ _ _ _ _ _ _ _ _ _ _ _ _ _ _ _ _ _ _ _ _ _ _ _ _ _ _ _ _ _ _ _ _ _ _ _ _ _ _ _ _ _ _ _ _ _ _ _ _ _ _ _ _ ?_
  rintro v165 v166 v167 v168 v169 v170 v171 v172 v173 v174 v175 v176 v177 v178 v179 v180 v181 v182 v183 v184 v185 v186 v187 v188 v189 v190 v191 v192 v193 v194 v195 v196 v197 v198 v199 w6 ⟨m6, M6⟩
  have c6 := M6.cl
  have e6 := M6.cb
  have hwr : IntKind.i64.wrap ((kk : Int) + 1) = (kk : Int) + 1 := by rw [IntKind.wrap_i64]; have := HK9.out; have := HKK.out; omega
  have u3' : w6.cell? ⟨m.cb, 3, none⟩ = some (.slice (some ⟨m6.kb, 0, none⟩) t.n m6.ck) := by rw [← e6, c6.cell]; rfl
  have uk' : w6.cell? ⟨m6.kb, r, none⟩ = some (.slice (some ⟨m6.g r, 0, none⟩) t.n t.n) := c6.k0 hr
  have ug' : w6.cell? ⟨m6.g r, r, none⟩ = some (.int .i64 kk) := by rw [HKK.out]; exact c6.g0 hr hr
  have uf' : w6.frozen? ⟨m6.g r, r, none⟩ = false := blk_frozen (c6.ks.kc r hr) r
  have hr0 : (0 : Int) ≤ (r : Int) := Int.natCast_nonneg _
  have hr1 : (r : Int) < (t.n : Int) := by omega
  have G6 := hid (And.intro M6 e6)
  clear M6 c6 e6 u0 u3 uk ug f0 f1 f2 f3 f4 f5 f6
  have up_eq : upd (t.K r) r (kk + 1) = (t.K r).up r := by
    funext q
    unfold upd Vec.up
    split
    · rename_i e; rw [e, HKK.out]
    · rfl
  have b7 : Bx (m6.g r) w6 (w6.setCell ⟨m6.g r, r, none⟩ (.int .i64 ((kk + 1 : Nat) : Int))) := (Bx.rfl _ w6).scs r [_]
  have h7 : (w6.setCell ⟨m6.g r, r, none⟩ (.int .i64 ((kk + 1 : Nat) : Int))).heap[m6.g r]? = some (.cells (intsV (vecL t.n ((t.K r).up r))) 3) := by
    rw [heap_setCell_self (G6.out.1.cl.ks.kc r hr), ← up_eq]
    exact congrArg (fun C => some (Obj.cells C 3)) (vecL_set t.n (t.K r) r (kk + 1) hr)
  have c7 := (G6.out.1.cl.vec_to hr b7 h7).blw (Blw.dr (Blw.rfl _))
  obtain ⟨W7, hW7⟩ : ∃ W7, W7 = (w6.setCell ⟨m6.g r, r, none⟩ (.int .i64 ((kk + 1 : Nat) : Int))).drew := ⟨_, rfl⟩
  rw [← hW7] at c7
  have M7 := G6.out.1.tr (⟨c7, by rw [hW7]; exact (b7.kp (G6.out.1.cl.ks.og r hr)).tr ((Blw.dr (Blw.rfl _)).kp _), fun k hk => .inl hk, rfl, fun k hk => hk⟩ : Moved w6 W7 m6 m6 _)
  have HW7 : Hid (W7 = (w6.setCell ⟨m6.g r, r, none⟩ (.int .i64 ((kk : Int) + 1))).drew) := hW7
  have b8 : Bx m6.tb W7 (W7.setCell ⟨m6.tb, wn, none⟩ (.string ⟨tx.toArray⟩)) := (Bx.rfl _ W7).scs wn [_]
  have c8 := c7.tok_to hw3 b8 (heap_setCell_self c7.tk.tk _)
  have M8 := M7.tr (Moved.mk c8 (b8.kp c7.ot) (fun k hk => Or.inl hk) rfl (fun k hk => hk))
  have b9 : Bx m6.ob (W7.setCell ⟨m6.tb, wn, none⟩ (.string ⟨tx.toArray⟩)) ((W7.setCell ⟨m6.tb, wn, none⟩ (.string ⟨tx.toArray⟩)).setCell ⟨m6.ob, r, none⟩ (.string ⟨tx.toArray⟩)) := (Bx.rfl _ _).scs r [_]
  have c9 := c8.own_to hr b9 (heap_setCell_self c8.ow.tk _)
  have M9 := M8.tr (Moved.mk c9 (b9.kp c8.oo) (fun k hk => Or.inl hk) rfl (fun k hk => hk))
  have FIN : Hid (F ((W7.setCell ⟨m6.tb, wn, none⟩ (.string ⟨tx.toArray⟩)).setCell ⟨m6.ob, r, none⟩ (.string ⟨tx.toArray⟩))) := by
    show F _
    rw [HF.out]
    have M0 : Moved w w4 m m _ := ⟨C4.out.1, (C0.out.2.1.kp _).tr C4.out.2.1, fun k hk => .inl hk, rfl, fun k hk => hk⟩
    have ML := M0.tr M9
    have key : t.event r wn 4 c it v = { t with client := (wn : Int), tok := t.toks wn, p := upd t.p r P, x := upd t.x r X, err := 0, evs := t.evs ++ [⟨r, t.K r r + 1, 4, c, it, (-v), t.K r⟩], K := upd t.K r ((t.K r).up r), toks := upd t.toks wn tx, owns := upd t.owns r tx } := by
      rw [HP.out.1, HP.out.2.1, HP.out.2.2]; simp only [CS.event, HVV.out]
    rw [key]
    exact ⟨_, ML⟩
  have y7 : W7.cell? ⟨m.cb, 7, none⟩ = some (.slice (some ⟨m6.tb, 0, none⟩) 3 m6.ct) := by rw [← G6.out.2, c7.cell]; rfl
  have y8 : W7.cell? ⟨m.cb, 8, none⟩ = some (.slice (some ⟨m6.ob, 0, none⟩) t.n m6.co) := by rw [← G6.out.2, c7.cell]; rfl
  have yt := c7.t0 hw3
  have yo := c7.o0 hr
  have yft : W7.frozen? ⟨m6.tb, wn, none⟩ = false := blk_frozen c7.tk.tk wn
  have yfo : W7.frozen? ⟨m6.ob, r, none⟩ = false := blk_frozen c7.ow.tk r
  have nt : m6.tb ≠ m.cb := by rw [← G6.out.2]; exact ne_ty c7.tk.tk c7.row (by decide)
  have no : m6.ob ≠ m.cb := by rw [← G6.out.2]; exact ne_ty c7.ow.tk c7.row (by decide)
  have nto : m6.tb ≠ m6.ob := c7.tno
  clear up_eq b7 h7 c7 hW7 M7 b8 c8 M8 b9 c9 M9 HF HP C3 C1
  go_wp2
  go_big_region
  rw [← HW7.out]
  go_wp2
  go_ret
  exact ⟨rfl, FIN.out⟩

end Go.Proofs.YtalaldfgjgpacaaGreatDoor
