import Derived.Test.YtalaldfgjgpacaaGreatDoorHAU
import Derived.Test.YtalaldfgjgpacaaGreatDoorHBC
import Derived.Test.YtalaldfgjgpacaaGreatDoorX14
import Derived.Test.YtalaldfgjgpacaaGreatDoorX20a
import Derived.Test.YtalaldfgjgpacaaGreatDoorX8
import Derived.Test.YtalaldfgjgpacaaGreatDoorY2
import Derived.Deep.RegionHeld3
import Derived.BigRegion
namespace Go.Proofs.YtalaldfgjgpacaaGreatDoor
set_option linter.unusedVariables false
set_option linter.unusedSimpArgs false
open Go.RowKit
attribute [local go_sem ↓] Go.wp_at_zero Go.wp_at_succ

set_option maxRecDepth 100000 in
set_option maxHeartbeats 8000000 in
theorem step_compact {w : World} {m : CM} {s : CS} (hI : Inv s) (h : ClAt w m s) (hm : s.mode = 0 ∨ s.mode = 1 ∨ s.mode = 2) (hll : s.lg.length ≤ 100000) (hwl : s.wire.length ≤ 10000000) (hal : s.acks.length ≤ 10000000) {r0 t0 a0 b0 c0 : Int} {s0 : ByteArray} (hr1 : -9223372036854775808 ≤ r0) (hr2 : r0 ≤ 9223372036854775807) (ht1 : -9223372036854775808 ≤ t0) (ht2 : t0 ≤ 9223372036854775807) (ha1 : -9223372036854775808 ≤ a0) (ha2 : a0 ≤ 9223372036854775807) (hb1 : -9223372036854775808 ≤ b0) (hb2 : b0 ≤ 9223372036854775807) (hc1 : -9223372036854775808 ≤ c0) (hc2 : c0 ≤ 9223372036854775807)  :
    Calls Tryz.prog 25 #[.pointer (some ⟨m.cb, 0, none⟩), .agg (opArr 9 r0 t0 a0 b0 c0 s0)] w fun e w' => e = .returned (.bool true) ∧ ∃ m', Moved w w' m m' ((s.ahead (pickN r0 s.n).toNat).compact (pickN r0 s.n).toNat) := by
  have hn3 := h.n3
  have hn1 := h.n1
  obtain ⟨F, hF⟩ : ∃ F : World → Prop, F = fun w' => ∃ m', Moved w w' m m' ((s.ahead (pickN r0 s.n).toNat).compact (pickN r0 s.n).toNat) := ⟨_, rfl⟩
  rw [show (fun e w' => e = Ending.returned (.bool true) ∧ ∃ m', Moved w w' m m' ((s.ahead (pickN r0 s.n).toNat).compact (pickN r0 s.n).toNat)) = fun e w' => e = Ending.returned (.bool true) ∧ F w' by rw [hF]]
  have HF := hid hF
  have HPR := hid (fun wx => pick_any r0 s.n wx hr1 hr2 (by omega) (by omega))
  obtain ⟨q1, q2⟩ := pickN_bd r0 s.n (by omega)
  obtain ⟨r, hrr⟩ : ∃ r : Nat, pickN r0 s.n = (r : Int) := ⟨(pickN r0 s.n).toNat, by omega⟩
  have hrt : (pickN r0 s.n).toNat = r := by omega
  rw [hrr] at HPR
  have hr : r < s.n := by omega
  have HRT := hid hrt
  obtain ⟨W0, hW0⟩ : ∃ W0, W0 = w.alloc (.cells #[.int .i64 9, .int .i64 r0, .int .i64 t0, .int .i64 a0, .int .i64 b0, .int .i64 c0, .string s0] 46) := ⟨_, rfl⟩
  have B0 : Blw w W0.drew := by rw [hW0]; exact ((Blw.rfl w).al _).dr
  have h1 := h.blw B0
  have O1 : OpAt W0.drew w.heap.size 9 r0 t0 a0 b0 c0 s0 := ⟨by rw [hW0]; exact hp_new w _⟩
  obtain ⟨f0, f1, f2, f3, f4, f5, f6⟩ := O1.cells
  have hno : ¬ m.own w.heap.size := fun e => Nat.lt_irrefl _ (h.lim _ e)
  have S1 := hid (show (W0.drew.cell? ⟨w.heap.size, 1, none⟩ = some (.int .i64 r0) ∧ W0.drew.cell? ⟨m.cb, 0, none⟩ = some (.int .i64 s.n)) from ⟨f1, by rw [h1.cell]; rfl⟩)
  have H1 := hid (And.intro h1 (And.intro B0 O1))
  have HW0 := hid hW0
  have HI := hid hI
  clear hF hrr hrt q1 q2 hW0 B0 h1 O1 h
  unfold opArr
  obtain ⟨E, V, hCo⟩ := hI.core
  have hpk := (hCo.rep r hr).ok.fine.ok
  have hfit := (hCo.rep r hr).ok.fits (hCo.rep r hr).short
  have HAH := hid (ahead_cl H1.out.1 hr hpk)
  clear hCo
  go_enter Tryz.func25, Tryz.ntmps25
  go_wp2
  rw [← HW0.out]
  go_region_held3 (fun w' => w'.cell? ⟨w.heap.size, 1, none⟩ = some (.int .i64 r0) ∧ w'.cell? ⟨m.cb, 0, none⟩ = some (.int .i64 s.n)) (first | exact S1.out)
    (first | (go_at_call 21; refine (HPR.out _).mono ?_; rintro e w1 ⟨rfl, hw⟩; subst hw))
  go_wp2_with fail
  refine HAH.out.mono ?_
  rintro e w2 ⟨rfl, m2, M2⟩
  have e2 := M2.cb
  have O2 : OpAt w2 w.heap.size 9 r0 t0 a0 b0 c0 s0 := ⟨M2.kp.keep H1.out.2.2.blk hno⟩
  obtain ⟨g0, g1, g2, g3, g4, g5, g6⟩ := O2.cells
  have M02 := (Moved.mk H1.out.1 (H1.out.2.1.kp _) (fun k hk => Or.inl hk) rfl (fun k hk => hk) : Moved w W0.drew m m s).tr M2
  have HCM := hid (compact_any (m2.b r) r s.n (s.p r) (s.x r) w2 hpk hfit.2.1 M2.cl.tab (M2.cl.xs.rep r hr))
  have y2 : w2.cell? ⟨m.cb, 2, none⟩ = some (.slice (some ⟨m2.xb, 0, none⟩) s.n m2.cx) := by rw [← e2, M2.cl.cell]; rfl
  have yx := M2.cl.x0 hr
  have M2h := hid (And.intro M02 (And.intro M2.cl e2))
  clear M2 M02 O2 f0 f1 f2 f3 f4 f5 f6 e2 hfit
  go_wp2_with fail
  refine HCM.out.mono ?_
  rintro e w3 ⟨rfl, rep3, bx3⟩
  have c3 := M2h.out.2.1.rep_to hr bx3 rep3
  have HST := hid (state_any (xt := (s.x r).compact (s.p r)) (m2.b r) r s.n (s.p r) w3 hn3 hpk rep3)
  obtain ⟨ys, hys⟩ : ∃ ys : ByteArray, ys = ⟨((s.p r).digsTo s.n ++ [59] ++ (s.p r).entTo 12).toArray⟩ := ⟨_, rfl⟩
  rw [← hys] at HST
  have M3 := hid (M2h.out.1.tr (Moved.mk c3 (bx3.kp (M2h.out.2.1.xs.ob r hr)) (fun k hk => Or.inl hk) rfl (fun k hk => hk)))
  have HYS := hid hys
  clear rep3 bx3 c3 y2 yx hys
  go_wp2_with fail
  refine HST.out.mono ?_
  rintro e w4 ⟨rfl, b4⟩
  have c4 := M3.out.cl.blw b4
  have y13 : w4.cell? ⟨m.cb, 13, none⟩ = some (.string ys) := by rw [← M2h.out.2.2, c4.cell, HYS.out]; rfl
  have FIN : Hid (F w4) := by
    show F _
    rw [HF.out, HRT.out]
    have e1 : (s.ahead r).compact r = { s.ahead r with p := upd (s.ahead r).p r (s.p r), x := upd (s.ahead r).x r ((s.x r).compact (s.p r)) } := by
      rw [show upd (s.ahead r).p r (s.p r) = (s.ahead r).p from upd_self s.p r]; rfl
    rw [e1]
    exact ⟨m2, M3.out.tr (Moved.mk c4 (b4.kp _) (fun k hk => Or.inl hk) rfl (fun k hk => hk))⟩
  clear c4 b4
  go_wp2
  go_ret
  exact ⟨rfl, FIN.out⟩

theorem ship_n (t : CS) (r q : Nat) : (t.ship r q).n = t.n := by
  unfold CS.ship
  split
  · rfl
  · split <;> rfl
theorem ship_len (me : Nat) (p : Pc) (x : Ext) (r a : Nat) (hp : p.ok) (ht : x.had - a ≤ x.kept → (tailJ x.late (x.had - a) 0).ok) : (shipL me p x r a).length ≤ 300 := by
  unfold shipL
  split
  · simp
  · split
    · rename_i h
      have := text_len' _ (ht h)
      simp [headL]; omega
    · have := text_len' _ hp
      simp [headL]; omega
/-- A replica writes to another one. -/
theorem ship_cl {w : World} {m : CM} {s : CS} (hI : Inv s) {r q : Nat} (hr : r < s.n) (hq : q < s.n) (h : ClAt w m (s.ahead r)) (hwl : s.wire.length ≤ 10000000) :
    Calls Tryz.prog 64 #[.pointer (some ⟨m.cb, 0, none⟩), .int .i64 r, .int .i64 q] w fun e w' => e = .returned (.bool true) ∧ ∃ m', Moved w w' m m' ((s.ahead r).ship r q) := by
  obtain ⟨E, V, hCo⟩ := hI.core
  have hi := hCo.rep r hr
  have hfit := hi.ok.fits hi.short
  have ht : ∀ c, c ≤ (s.x r).kept → (tailJ (s.x r).late c 0).ok := by
    intro c hc
    have hcl : c ≤ (s.x r).late.length := Nat.le_trans hc (Nat.min_le_right _ _)
    by_cases h0 : c = 0
    · rw [tailJ_end _ _ _ (by omega)]; exact fine_empty.ok
    · exact ((hi.tail0 hcl (by omega)).fine hi.good).ok
  have P : ShipPre w m (s.ahead r) r q := ⟨h, hr, hq, hi.ok.fine.ok, hfit.2.1, hi.ackle q, ht, rfl⟩
  by_cases e : q = r
  · subst e; exact ship_self P
  · by_cases hh : (s.x r).had = (s.x r).ack q
    · exact ship_quiet P e hh (hCo.quiet hr hq (Ne.symm e) hh)
    · exact ship_send P e hh (ship_len _ _ _ _ _ hi.ok.fine.ok (fun hk => ht _ hk)) hwl

set_option maxRecDepth 100000 in
set_option maxHeartbeats 8000000 in
theorem step_ship {w : World} {m : CM} {s : CS} (hI : Inv s) (h : ClAt w m s) (hm : s.mode = 0 ∨ s.mode = 1 ∨ s.mode = 2) (hll : s.lg.length ≤ 100000) (hwl : s.wire.length ≤ 10000000) (hal : s.acks.length ≤ 10000000) {r0 t0 a0 b0 c0 : Int} {s0 : ByteArray} (hr1 : -9223372036854775808 ≤ r0) (hr2 : r0 ≤ 9223372036854775807) (ht1 : -9223372036854775808 ≤ t0) (ht2 : t0 ≤ 9223372036854775807) (ha1 : -9223372036854775808 ≤ a0) (ha2 : a0 ≤ 9223372036854775807) (hb1 : -9223372036854775808 ≤ b0) (hb2 : b0 ≤ 9223372036854775807) (hc1 : -9223372036854775808 ≤ c0) (hc2 : c0 ≤ 9223372036854775807)  :
    Calls Tryz.prog 25 #[.pointer (some ⟨m.cb, 0, none⟩), .agg (opArr 12 r0 t0 a0 b0 c0 s0)] w fun e w' => e = .returned (.bool true) ∧ ∃ m', Moved w w' m m' ((s.ahead (pickN r0 s.n).toNat).ship (pickN r0 s.n).toNat (pickN a0 s.n).toNat) := by
  have hn3 := h.n3
  have hn1 := h.n1
  obtain ⟨F, hF⟩ : ∃ F : World → Prop, F = fun w' => ∃ m', Moved w w' m m' ((s.ahead (pickN r0 s.n).toNat).ship (pickN r0 s.n).toNat (pickN a0 s.n).toNat) := ⟨_, rfl⟩
  rw [show (fun e w' => e = Ending.returned (.bool true) ∧ ∃ m', Moved w w' m m' ((s.ahead (pickN r0 s.n).toNat).ship (pickN r0 s.n).toNat (pickN a0 s.n).toNat)) = fun e w' => e = Ending.returned (.bool true) ∧ F w' by rw [hF]]
  have HF := hid hF
  have HPR := hid (fun wx => pick_any r0 s.n wx hr1 hr2 (by omega) (by omega))
  obtain ⟨q1, q2⟩ := pickN_bd r0 s.n (by omega)
  obtain ⟨r, hrr⟩ : ∃ r : Nat, pickN r0 s.n = (r : Int) := ⟨(pickN r0 s.n).toNat, by omega⟩
  have hrt : (pickN r0 s.n).toNat = r := by omega
  rw [hrr] at HPR
  have hr : r < s.n := by omega
  have HRT := hid hrt
  obtain ⟨W0, hW0⟩ : ∃ W0, W0 = w.alloc (.cells #[.int .i64 12, .int .i64 r0, .int .i64 t0, .int .i64 a0, .int .i64 b0, .int .i64 c0, .string s0] 46) := ⟨_, rfl⟩
  have B0 : Blw w W0.drew := by rw [hW0]; exact ((Blw.rfl w).al _).dr
  have h1 := h.blw B0
  have O1 : OpAt W0.drew w.heap.size 12 r0 t0 a0 b0 c0 s0 := ⟨by rw [hW0]; exact hp_new w _⟩
  obtain ⟨f0, f1, f2, f3, f4, f5, f6⟩ := O1.cells
  have hno : ¬ m.own w.heap.size := fun e => Nat.lt_irrefl _ (h.lim _ e)
  have S1 := hid (show (W0.drew.cell? ⟨w.heap.size, 1, none⟩ = some (.int .i64 r0) ∧ W0.drew.cell? ⟨m.cb, 0, none⟩ = some (.int .i64 s.n)) from ⟨f1, by rw [h1.cell]; rfl⟩)
  have H1 := hid (And.intro h1 (And.intro B0 O1))
  have HW0 := hid hW0
  have HI := hid hI
  clear hF hrr hrt q1 q2 hW0 B0 h1 O1 h
  unfold opArr
  obtain ⟨E, V, hCo⟩ := hI.core
  have hi := hCo.rep r hr
  have HAH := hid (ahead_cl H1.out.1 hr hi.ok.fine.ok)
  have HPA := hid (fun wx => pick_any a0 s.n wx ha1 ha2 (by omega) (by omega))
  obtain ⟨q1, q2⟩ := pickN_bd a0 s.n (by omega)
  obtain ⟨q, hqq⟩ : ∃ q : Nat, pickN a0 s.n = (q : Int) := ⟨(pickN a0 s.n).toNat, by omega⟩
  have hqt : (pickN a0 s.n).toNat = q := by omega
  rw [hqq] at HPA
  have hq : q < s.n := by omega
  have HQT := hid hqt
  have HCS := hid (fun (wx : World) (mx : CM) (hx : ClAt wx mx (s.ahead r)) => ship_cl hI hr hq hx hwl)
  clear hCo hi hqq hqt q1 q2
  go_enter Tryz.func25, Tryz.ntmps25
  go_wp2
  rw [← HW0.out]
  go_region_held3 (fun w' => w'.cell? ⟨w.heap.size, 1, none⟩ = some (.int .i64 r0) ∧ w'.cell? ⟨m.cb, 0, none⟩ = some (.int .i64 s.n)) (first | exact S1.out)
    (first | (go_at_call 21; refine (HPR.out _).mono ?_; rintro e w1 ⟨rfl, hw⟩; subst hw))
  go_wp2_with fail
  refine HAH.out.mono ?_
  rintro e w2 ⟨rfl, m2, M2⟩
  have e2 := M2.cb
  have O2 : OpAt w2 w.heap.size 12 r0 t0 a0 b0 c0 s0 := ⟨M2.kp.keep H1.out.2.2.blk hno⟩
  obtain ⟨g0, g1, g2, g3, g4, g5, g6⟩ := O2.cells
  have M02 := (Moved.mk H1.out.1 (H1.out.2.1.kp _) (fun k hk => Or.inl hk) rfl (fun k hk => hk) : Moved w W0.drew m m s).tr M2
  have c2d := M2.cl.blw (Blw.dr (Blw.rfl w2))
  have HSH := hid (HCS.out _ _ c2d)
  rw [e2] at HSH
  have M2o := hid M2.own
  have OPD := hid (show OpAt w2.drew w.heap.size 12 r0 t0 a0 b0 c0 s0 from ⟨O2.blk⟩)
  have M2h := hid (And.intro (M02.tr (Moved.mk c2d ((Blw.dr (Blw.rfl w2)).kp _) (fun k hk => Or.inl hk) rfl (fun k hk => hk))) e2)
  have S2 := hid (show (w2.drew.cell? ⟨w.heap.size, 3, none⟩ = some (.int .i64 a0) ∧ w2.drew.cell? ⟨m.cb, 0, none⟩ = some (.int .i64 s.n)) from ⟨g3, by rw [← e2, c2d.cell]; rfl⟩)
  clear M2 M02 O2 f0 f1 f2 f3 f4 f5 f6 e2 c2d
  go_wp2
  go_region_held3 (fun w' => w'.cell? ⟨w.heap.size, 3, none⟩ = some (.int .i64 a0) ∧ w'.cell? ⟨m.cb, 0, none⟩ = some (.int .i64 s.n)) (first | exact S2.out | exact S3.out)
    (first
      | (go_at_call 21; refine (HPA.out _).mono ?_; rintro e w1 ⟨rfl, hw⟩; subst hw)
      | (go_at_call 64
         refine HSH.out.mono ?_
         rintro e w3 ⟨rfl, m3, M3⟩
         have S3 := hid (show (w3.cell? ⟨w.heap.size, 3, none⟩ = some (.int .i64 a0) ∧ w3.cell? ⟨m.cb, 0, none⟩ = some (.int .i64 s.n)) from ⟨by rw [blk_cell (M3.kp.keep (OPD.out.blk) (fun e => (M2o.out _ e).elim hno (fun hle => by have := lt_of_blk H1.out.2.2.blk; omega)))]; rfl, by rw [← M2h.out.2, ← M3.cb, M3.cl.cell]; exact congrArg (fun k : Nat => some (Value.int .i64 (k : Int))) (ship_n (s.ahead r) r q)⟩)
         have M3h := hid M3
         clear M3))
  all_goals
    have FIN : Hid (F w3) := by
      show F _
      rw [HF.out, HRT.out, HQT.out]
      exact ⟨m3, M2h.out.1.tr M3h.out⟩
    go_wp2
    go_ret
    exact ⟨rfl, FIN.out⟩

set_option maxRecDepth 100000 in
set_option maxHeartbeats 8000000 in
theorem step_take0 {w : World} {m : CM} {s : CS} (hI : Inv s) (h : ClAt w m s) (hm : s.mode = 0 ∨ s.mode = 1 ∨ s.mode = 2) (hll : s.lg.length ≤ 100000) (hwl : s.wire.length ≤ 10000000) (hal : s.acks.length ≤ 10000000) {r0 t0 a0 b0 c0 : Int} {s0 : ByteArray} (hr1 : -9223372036854775808 ≤ r0) (hr2 : r0 ≤ 9223372036854775807) (ht1 : -9223372036854775808 ≤ t0) (ht2 : t0 ≤ 9223372036854775807) (ha1 : -9223372036854775808 ≤ a0) (ha2 : a0 ≤ 9223372036854775807) (hb1 : -9223372036854775808 ≤ b0) (hb2 : b0 ≤ 9223372036854775807) (hc1 : -9223372036854775808 ≤ c0) (hc2 : c0 ≤ 9223372036854775807) (hw : s.wire = []) :
    Calls Tryz.prog 25 #[.pointer (some ⟨m.cb, 0, none⟩), .agg (opArr 11 r0 t0 a0 b0 c0 s0)] w fun e w' => e = .returned (.bool true) ∧ ∃ m', Moved w w' m m' (s.ahead (pickN r0 s.n).toNat) := by
  have hn3 := h.n3
  have hn1 := h.n1
  obtain ⟨F, hF⟩ : ∃ F : World → Prop, F = fun w' => ∃ m', Moved w w' m m' (s.ahead (pickN r0 s.n).toNat) := ⟨_, rfl⟩
  rw [show (fun e w' => e = Ending.returned (.bool true) ∧ ∃ m', Moved w w' m m' (s.ahead (pickN r0 s.n).toNat)) = fun e w' => e = Ending.returned (.bool true) ∧ F w' by rw [hF]]
  have HF := hid hF
  have HPR := hid (fun wx => pick_any r0 s.n wx hr1 hr2 (by omega) (by omega))
  obtain ⟨q1, q2⟩ := pickN_bd r0 s.n (by omega)
  obtain ⟨r, hrr⟩ : ∃ r : Nat, pickN r0 s.n = (r : Int) := ⟨(pickN r0 s.n).toNat, by omega⟩
  have hrt : (pickN r0 s.n).toNat = r := by omega
  rw [hrr] at HPR
  have hr : r < s.n := by omega
  have HRT := hid hrt
  obtain ⟨W0, hW0⟩ : ∃ W0, W0 = w.alloc (.cells #[.int .i64 11, .int .i64 r0, .int .i64 t0, .int .i64 a0, .int .i64 b0, .int .i64 c0, .string s0] 46) := ⟨_, rfl⟩
  have B0 : Blw w W0.drew := by rw [hW0]; exact ((Blw.rfl w).al _).dr
  have h1 := h.blw B0
  have O1 : OpAt W0.drew w.heap.size 11 r0 t0 a0 b0 c0 s0 := ⟨by rw [hW0]; exact hp_new w _⟩
  obtain ⟨f0, f1, f2, f3, f4, f5, f6⟩ := O1.cells
  have hno : ¬ m.own w.heap.size := fun e => Nat.lt_irrefl _ (h.lim _ e)
  have S1 := hid (show (W0.drew.cell? ⟨w.heap.size, 1, none⟩ = some (.int .i64 r0) ∧ W0.drew.cell? ⟨m.cb, 0, none⟩ = some (.int .i64 s.n)) from ⟨f1, by rw [h1.cell]; rfl⟩)
  have H1 := hid (And.intro h1 (And.intro B0 O1))
  have HW0 := hid hW0
  have HI := hid hI
  clear hF hrr hrt q1 q2 hW0 B0 h1 O1 h
  unfold opArr
  obtain ⟨E, V, hCo⟩ := hI.core
  have HAH := hid (ahead_cl H1.out.1 hr (hCo.rep r hr).ok.fine.ok)
  clear hCo
  go_enter Tryz.func25, Tryz.ntmps25
  go_wp2
  rw [← HW0.out]
  go_region_held3 (fun w' => w'.cell? ⟨w.heap.size, 1, none⟩ = some (.int .i64 r0) ∧ w'.cell? ⟨m.cb, 0, none⟩ = some (.int .i64 s.n)) (first | exact S1.out)
    (first | (go_at_call 21; refine (HPR.out _).mono ?_; rintro e w1 ⟨rfl, hw⟩; subst hw))
  go_wp2_with fail
  refine HAH.out.mono ?_
  rintro e w2 ⟨rfl, m2, M2⟩
  have e2 := M2.cb
  have O2 : OpAt w2 w.heap.size 11 r0 t0 a0 b0 c0 s0 := ⟨M2.kp.keep H1.out.2.2.blk hno⟩
  obtain ⟨g0, g1, g2, g3, g4, g5, g6⟩ := O2.cells
  have M02 := (Moved.mk H1.out.1 (H1.out.2.1.kp _) (fun k hk => Or.inl hk) rfl (fun k hk => hk) : Moved w W0.drew m m s).tr M2
  have y5 : w2.cell? ⟨m.cb, 5, none⟩ = some m2.wv := by rw [← e2, M2.cl.cell]; rfl
  obtain ⟨wa, wc, hwv, _⟩ := ownsRow_form M2.cl.wi.o
  rw [hwv, show (s.ahead r).wire.length = 0 by show s.wire.length = 0; rw [hw]; rfl] at y5
  have FIN : Hid (F w2) := by
    show F _
    rw [HF.out, HRT.out]
    exact ⟨m2, M02⟩
  clear M2 M02 O2 f0 f1 f2 f3 f4 f5 f6 e2
  go_wp2
  go_ret
  exact ⟨rfl, FIN.out⟩

set_option maxRecDepth 100000 in
set_option maxHeartbeats 8000000 in
theorem step_acked0 {w : World} {m : CM} {s : CS} (hI : Inv s) (h : ClAt w m s) (hm : s.mode = 0 ∨ s.mode = 1 ∨ s.mode = 2) (hll : s.lg.length ≤ 100000) (hwl : s.wire.length ≤ 10000000) (hal : s.acks.length ≤ 10000000) {r0 t0 a0 b0 c0 : Int} {s0 : ByteArray} (hr1 : -9223372036854775808 ≤ r0) (hr2 : r0 ≤ 9223372036854775807) (ht1 : -9223372036854775808 ≤ t0) (ht2 : t0 ≤ 9223372036854775807) (ha1 : -9223372036854775808 ≤ a0) (ha2 : a0 ≤ 9223372036854775807) (hb1 : -9223372036854775808 ≤ b0) (hb2 : b0 ≤ 9223372036854775807) (hc1 : -9223372036854775808 ≤ c0) (hc2 : c0 ≤ 9223372036854775807) (hw : s.acks = []) :
    Calls Tryz.prog 25 #[.pointer (some ⟨m.cb, 0, none⟩), .agg (opArr 13 r0 t0 a0 b0 c0 s0)] w fun e w' => e = .returned (.bool true) ∧ ∃ m', Moved w w' m m' (s.ahead (pickN r0 s.n).toNat) := by
  have hn3 := h.n3
  have hn1 := h.n1
  obtain ⟨F, hF⟩ : ∃ F : World → Prop, F = fun w' => ∃ m', Moved w w' m m' (s.ahead (pickN r0 s.n).toNat) := ⟨_, rfl⟩
  rw [show (fun e w' => e = Ending.returned (.bool true) ∧ ∃ m', Moved w w' m m' (s.ahead (pickN r0 s.n).toNat)) = fun e w' => e = Ending.returned (.bool true) ∧ F w' by rw [hF]]
  have HF := hid hF
  have HPR := hid (fun wx => pick_any r0 s.n wx hr1 hr2 (by omega) (by omega))
  obtain ⟨q1, q2⟩ := pickN_bd r0 s.n (by omega)
  obtain ⟨r, hrr⟩ : ∃ r : Nat, pickN r0 s.n = (r : Int) := ⟨(pickN r0 s.n).toNat, by omega⟩
  have hrt : (pickN r0 s.n).toNat = r := by omega
  rw [hrr] at HPR
  have hr : r < s.n := by omega
  have HRT := hid hrt
  obtain ⟨W0, hW0⟩ : ∃ W0, W0 = w.alloc (.cells #[.int .i64 13, .int .i64 r0, .int .i64 t0, .int .i64 a0, .int .i64 b0, .int .i64 c0, .string s0] 46) := ⟨_, rfl⟩
  have B0 : Blw w W0.drew := by rw [hW0]; exact ((Blw.rfl w).al _).dr
  have h1 := h.blw B0
  have O1 : OpAt W0.drew w.heap.size 13 r0 t0 a0 b0 c0 s0 := ⟨by rw [hW0]; exact hp_new w _⟩
  obtain ⟨f0, f1, f2, f3, f4, f5, f6⟩ := O1.cells
  have hno : ¬ m.own w.heap.size := fun e => Nat.lt_irrefl _ (h.lim _ e)
  have S1 := hid (show (W0.drew.cell? ⟨w.heap.size, 1, none⟩ = some (.int .i64 r0) ∧ W0.drew.cell? ⟨m.cb, 0, none⟩ = some (.int .i64 s.n)) from ⟨f1, by rw [h1.cell]; rfl⟩)
  have H1 := hid (And.intro h1 (And.intro B0 O1))
  have HW0 := hid hW0
  have HI := hid hI
  clear hF hrr hrt q1 q2 hW0 B0 h1 O1 h
  unfold opArr
  obtain ⟨E, V, hCo⟩ := hI.core
  have HAH := hid (ahead_cl H1.out.1 hr (hCo.rep r hr).ok.fine.ok)
  clear hCo
  go_enter Tryz.func25, Tryz.ntmps25
  go_wp2
  rw [← HW0.out]
  go_region_held3 (fun w' => w'.cell? ⟨w.heap.size, 1, none⟩ = some (.int .i64 r0) ∧ w'.cell? ⟨m.cb, 0, none⟩ = some (.int .i64 s.n)) (first | exact S1.out)
    (first | (go_at_call 21; refine (HPR.out _).mono ?_; rintro e w1 ⟨rfl, hw⟩; subst hw))
  go_wp2_with fail
  refine HAH.out.mono ?_
  rintro e w2 ⟨rfl, m2, M2⟩
  have e2 := M2.cb
  have O2 : OpAt w2 w.heap.size 13 r0 t0 a0 b0 c0 s0 := ⟨M2.kp.keep H1.out.2.2.blk hno⟩
  obtain ⟨g0, g1, g2, g3, g4, g5, g6⟩ := O2.cells
  have M02 := (Moved.mk H1.out.1 (H1.out.2.1.kp _) (fun k hk => Or.inl hk) rfl (fun k hk => hk) : Moved w W0.drew m m s).tr M2
  have y6 : w2.cell? ⟨m.cb, 6, none⟩ = some m2.av := by rw [← e2, M2.cl.cell]; rfl
  obtain ⟨wa, wc, hwv, _⟩ := ownsRow_form M2.cl.ak.o
  rw [hwv, show (s.ahead r).acks.length = 0 by show s.acks.length = 0; rw [hw]; rfl] at y6
  have FIN : Hid (F w2) := by
    show F _
    rw [HF.out, HRT.out]
    exact ⟨m2, M02⟩
  clear M2 M02 O2 f0 f1 f2 f3 f4 f5 f6 e2
  go_wp2
  go_ret
  exact ⟨rfl, FIN.out⟩

end Go.Proofs.YtalaldfgjgpacaaGreatDoor

namespace Go.Proofs.YtalaldfgjgpacaaGreatDoor
set_option linter.unusedVariables false
set_option linter.unusedSimpArgs false
open Go.RowKit
attribute [local go_sem ↓] Go.wp_at_zero Go.wp_at_succ

set_option maxRecDepth 100000 in
set_option maxHeartbeats 8000000 in
theorem step_none {w : World} {m : CM} {s : CS} (hI : Inv s) (h : ClAt w m s) (hm : s.mode = 0 ∨ s.mode = 1 ∨ s.mode = 2) (hll : s.lg.length ≤ 100000) (hwl : s.wire.length ≤ 10000000) (hal : s.acks.length ≤ 10000000) {kd r0 t0 a0 b0 c0 : Int} {s0 : ByteArray} (hr1 : -9223372036854775808 ≤ r0) (hr2 : r0 ≤ 9223372036854775807) (ht1 : -9223372036854775808 ≤ t0) (ht2 : t0 ≤ 9223372036854775807) (ha1 : -9223372036854775808 ≤ a0) (ha2 : a0 ≤ 9223372036854775807) (hb1 : -9223372036854775808 ≤ b0) (hb2 : b0 ≤ 9223372036854775807) (hc1 : -9223372036854775808 ≤ c0) (hc2 : c0 ≤ 9223372036854775807) (hk1 : ¬ (3 ≤ kd ∧ kd ≤ 7)) (hk2 : kd ≠ 9) (hk3 : kd ≠ 10) (hk4 : kd ≠ 11) (hk5 : kd ≠ 12) (hk6 : kd ≠ 13) :
    Calls Tryz.prog 25 #[.pointer (some ⟨m.cb, 0, none⟩), .agg (opArr kd r0 t0 a0 b0 c0 s0)] w fun e w' => e = .returned (.bool true) ∧ ∃ m', Moved w w' m m' (s.ahead (pickN r0 s.n).toNat) := by
  have hn3 := h.n3
  have hn1 := h.n1
  obtain ⟨F, hF⟩ : ∃ F : World → Prop, F = fun w' => ∃ m', Moved w w' m m' (s.ahead (pickN r0 s.n).toNat) := ⟨_, rfl⟩
  rw [show (fun e w' => e = Ending.returned (.bool true) ∧ ∃ m', Moved w w' m m' (s.ahead (pickN r0 s.n).toNat)) = fun e w' => e = Ending.returned (.bool true) ∧ F w' by rw [hF]]
  have HF := hid hF
  have HPR := hid (fun wx => pick_any r0 s.n wx hr1 hr2 (by omega) (by omega))
  obtain ⟨q1, q2⟩ := pickN_bd r0 s.n (by omega)
  obtain ⟨r, hrr⟩ : ∃ r : Nat, pickN r0 s.n = (r : Int) := ⟨(pickN r0 s.n).toNat, by omega⟩
  have hrt : (pickN r0 s.n).toNat = r := by omega
  rw [hrr] at HPR
  have hr : r < s.n := by omega
  have HRT := hid hrt
  obtain ⟨W0, hW0⟩ : ∃ W0, W0 = w.alloc (.cells #[.int .i64 kd, .int .i64 r0, .int .i64 t0, .int .i64 a0, .int .i64 b0, .int .i64 c0, .string s0] 46) := ⟨_, rfl⟩
  have B0 : Blw w W0.drew := by rw [hW0]; exact ((Blw.rfl w).al _).dr
  have h1 := h.blw B0
  have O1 : OpAt W0.drew w.heap.size kd r0 t0 a0 b0 c0 s0 := ⟨by rw [hW0]; exact hp_new w _⟩
  obtain ⟨f0, f1, f2, f3, f4, f5, f6⟩ := O1.cells
  have hno : ¬ m.own w.heap.size := fun e => Nat.lt_irrefl _ (h.lim _ e)
  have S1 := hid (show (W0.drew.cell? ⟨w.heap.size, 1, none⟩ = some (.int .i64 r0) ∧ W0.drew.cell? ⟨m.cb, 0, none⟩ = some (.int .i64 s.n)) from ⟨f1, by rw [h1.cell]; rfl⟩)
  have H1 := hid (And.intro h1 (And.intro B0 O1))
  have HW0 := hid hW0
  have HI := hid hI
  clear hF hrr hrt q1 q2 hW0 B0 h1 O1 h
  unfold opArr
  have j10 : (kd == 10) = false := by rw [beq_eq_false_iff_ne]; omega
  obtain ⟨E, V, hCo⟩ := hI.core
  have HAH := hid (ahead_cl H1.out.1 hr (hCo.rep r hr).ok.fine.ok)
  clear hCo
  go_enter Tryz.func25, Tryz.ntmps25
  go_wp2
  rw [← HW0.out]
  go_region_held3 (fun w' => w'.cell? ⟨w.heap.size, 1, none⟩ = some (.int .i64 r0) ∧ w'.cell? ⟨m.cb, 0, none⟩ = some (.int .i64 s.n)) (first | exact S1.out)
    (first | (go_at_call 21; refine (HPR.out _).mono ?_; rintro e w1 ⟨rfl, hw⟩; subst hw))
  go_wp2_with fail
  refine HAH.out.mono ?_
  rintro e w2 ⟨rfl, m2, M2⟩
  have e2 := M2.cb
  have O2 : OpAt w2 w.heap.size kd r0 t0 a0 b0 c0 s0 := ⟨M2.kp.keep H1.out.2.2.blk hno⟩
  obtain ⟨g0, g1, g2, g3, g4, g5, g6⟩ := O2.cells
  have M02 := (Moved.mk H1.out.1 (H1.out.2.1.kp _) (fun k hk => Or.inl hk) rfl (fun k hk => hk) : Moved w W0.drew m m s).tr M2
  have j3 : (kd == 3) = false := by rw [beq_eq_false_iff_ne]; omega
  have j4 : (kd == 4) = false := by rw [beq_eq_false_iff_ne]; omega
  have j5 : (kd == 5) = false := by rw [beq_eq_false_iff_ne]; omega
  have j6 : (kd == 6) = false := by rw [beq_eq_false_iff_ne]; omega
  have j7 : (kd == 7) = false := by rw [beq_eq_false_iff_ne]; omega
  have j9 : (kd == 9) = false := by rw [beq_eq_false_iff_ne]; omega
  have j11 : (kd == 11) = false := by rw [beq_eq_false_iff_ne]; omega
  have j12 : (kd == 12) = false := by rw [beq_eq_false_iff_ne]; omega
  have j13 : (kd == 13) = false := by rw [beq_eq_false_iff_ne]; omega
  have FIN : Hid (F w2) := by
    show F _
    rw [HF.out, HRT.out]
    exact ⟨m2, M02⟩
  clear M2 M02 O2 f0 f1 f2 f3 f4 f5 f6 e2
  go_wp2
  go_ret
  exact ⟨rfl, FIN.out⟩

end Go.Proofs.YtalaldfgjgpacaaGreatDoor

namespace Go.Proofs.YtalaldfgjgpacaaGreatDoor
set_option linter.unusedVariables false
set_option linter.unusedSimpArgs false
open Go.RowKit

/-- One step. -/
theorem step_cl {w : World} {m : CM} {s : CS} (hI : Inv s) (h : ClAt w m s) (hm : s.mode = 0 ∨ s.mode = 1 ∨ s.mode = 2) (hll : s.lg.length ≤ 100000) (hwl : s.wire.length ≤ 10000000) (hal : s.acks.length ≤ 10000000) (o : OpR) (ho : o.ok) :
    Calls Tryz.prog 25 #[.pointer (some ⟨m.cb, 0, none⟩), .agg (opArr o.kind o.r o.t o.a o.b o.c o.s)] w fun e w' => e = .returned (.bool true) ∧ ∃ m', Moved w w' m m' (s.step o) := by
  obtain ⟨kd, r0, t0, a0, b0, c0, s0⟩ := o
  obtain ⟨⟨r1, r2⟩, ⟨t1, t2⟩, ⟨a1, a2⟩, ⟨b1, b2⟩, ⟨c1, c2⟩⟩ := ho
  unfold CS.step
  simp only at *
  by_cases h10 : kd = 10
  · subst h10
    rw [if_pos rfl]
    exact step_crash hI h hm hll hwl hal r1 r2 t1 t2 a1 a2 b1 b2 c1 c2
  · rw [if_neg h10]
    by_cases hc : 3 ≤ kd ∧ kd ≤ 7
    · rw [if_pos hc]
      have : kd = 3 ∨ kd = 4 ∨ kd = 5 ∨ kd = 6 ∨ kd = 7 := by omega
      rcases this with rfl | rfl | rfl | rfl | rfl
      · exact step_call3 hI h hm hll hwl hal r1 r2 t1 t2 a1 a2 b1 b2 c1 c2
      · exact step_call4 hI h hm hll hwl hal r1 r2 t1 t2 a1 a2 b1 b2 c1 c2
      · exact step_call5 hI h hm hll hwl hal r1 r2 t1 t2 a1 a2 b1 b2 c1 c2
      · exact step_call6 hI h hm hll hwl hal r1 r2 t1 t2 a1 a2 b1 b2 c1 c2
      · exact step_call7 hI h hm hll hwl hal r1 r2 t1 t2 a1 a2 b1 b2 c1 c2
    · rw [if_neg hc]
      by_cases h9 : kd = 9
      · subst h9
        rw [if_pos rfl]
        exact step_compact hI h hm hll hwl hal r1 r2 t1 t2 a1 a2 b1 b2 c1 c2
      · rw [if_neg h9]
        by_cases h12 : kd = 12
        · subst h12
          rw [if_pos rfl]
          exact step_ship hI h hm hll hwl hal r1 r2 t1 t2 a1 a2 b1 b2 c1 c2
        · rw [if_neg h12]
          by_cases h11 : kd = 11
          · subst h11
            rw [if_pos rfl]
            by_cases hw : s.wire = []
            · rw [if_pos hw]
              exact step_take0 hI h hm hll hwl hal r1 r2 t1 t2 a1 a2 b1 b2 c1 c2 hw
            · rw [if_neg hw]
              exact step_take1 hI h hm hll hwl hal r1 r2 t1 t2 a1 a2 b1 b2 c1 c2 hw
          · rw [if_neg h11]
            by_cases h13 : kd = 13
            · subst h13
              rw [if_pos rfl]
              by_cases hw : s.acks = []
              · rw [if_pos hw]
                exact step_acked0 hI h hm hll hwl hal r1 r2 t1 t2 a1 a2 b1 b2 c1 c2 hw
              · rw [if_neg hw]
                exact step_acked1 hI h hm hll hwl hal r1 r2 t1 t2 a1 a2 b1 b2 c1 c2 hw
            · rw [if_neg h13]
              exact step_none hI h hm hll hwl hal r1 r2 t1 t2 a1 a2 b1 b2 c1 c2 hc h9 h10 h11 h12 h13
end Go.Proofs.YtalaldfgjgpacaaGreatDoor

namespace Go.Proofs.YtalaldfgjgpacaaGreatDoor
set_option linter.unusedVariables false
set_option linter.unusedSimpArgs false

/-- A cluster that has been run. -/
structure RunAt (J : CS → Prop) (w w' : World) (m : CM) (s : CS) (n : Nat) (mode : Int) (k : Nat) : Prop where
  cl : ClAt w' m s
  ran : Ran s k
  hn : s.n = n
  hmode : s.mode = mode
  cb : m.cb = w.heap.size
  bl : Blw w w'
  own : ∀ j, m.own j → w.heap.size ≤ j
  j : J s
theorem RunAt.blw {J : CS → Prop} {w w1 w2 : World} {m : CM} {s : CS} {n : Nat} {mode : Int} {k : Nat} (h : RunAt J w w1 m s n mode k) (hb : Blw w1 w2) : RunAt J w w2 m s n mode k :=
  ⟨h.cl.blw hb, h.ran, h.hn, h.hmode, h.cb, h.bl.tr hb, h.own, h.j⟩
theorem RunAt.more {J : CS → Prop} {w w1 : World} {m : CM} {s : CS} {n : Nat} {mode : Int} {k k' : Nat} (h : RunAt J w w1 m s n mode k) (hk : k ≤ k') : RunAt J w w1 m s n mode k' :=
  ⟨h.cl, ⟨h.ran.inv, h.ran.lg, Nat.le_trans h.ran.wi hk, Nat.le_trans h.ran.ak hk⟩, h.hn, h.hmode, h.cb, h.bl, h.own, h.j⟩
theorem RunAt.step {J : CS → Prop} {w w1 w2 : World} {m m' : CM} {s : CS} {n : Nat} {mode : Int} {k : Nat} {o : OpR} (h : RunAt J w w1 m s n mode k) (hM : Moved w1 w2 m m' (s.step o)) (hj : J (s.step o)) : RunAt J w w2 m' (s.step o) n mode (k + 1) := by
  obtain ⟨r1, r2, r3⟩ := h.ran.step o
  refine ⟨hM.cl, r1, r2.trans h.hn, r3.trans h.hmode, hM.cb.trans h.cb, hM.kp.blw h.bl h.own, fun j hj => ?_, hj⟩
  rcases hM.own j hj with c | c
  · exact h.own j c
  · exact Nat.le_trans h.bl.size c
end Go.Proofs.YtalaldfgjgpacaaGreatDoor
