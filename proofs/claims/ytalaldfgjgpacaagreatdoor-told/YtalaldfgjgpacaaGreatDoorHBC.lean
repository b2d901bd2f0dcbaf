import Derived.Test.YtalaldfgjgpacaaGreatDoorHAX
import Derived.Test.YtalaldfgjgpacaaGreatDoorHAY
import Derived.Test.YtalaldfgjgpacaaGreatDoorHAZ
import Derived.Test.YtalaldfgjgpacaaGreatDoorHBB
import Derived.Test.YtalaldfgjgpacaaGreatDoorX14
import Derived.Test.YtalaldfgjgpacaaGreatDoorX17a
import Derived.Test.YtalaldfgjgpacaaGreatDoorX17b
import Derived.Test.YtalaldfgjgpacaaGreatDoorX17c
import Derived.Test.YtalaldfgjgpacaaGreatDoorX17d
import Derived.Test.YtalaldfgjgpacaaGreatDoorX7a
import Derived.Test.YtalaldfgjgpacaaGreatDoorX7b
import Derived.Test.YtalaldfgjgpacaaGreatDoorX7c
import Derived.Deep.RegionHeld3
import Derived.BigRegion
namespace Go.Proofs.YtalaldfgjgpacaaGreatDoor
set_option linter.unusedVariables false
set_option linter.unusedSimpArgs false
open Go.RowKit

theorem evs_len {n : Nat} {K : Nat → Vec} {E : Hist} {evs : List Ev} (h : EvsOk n K E evs) (hn : n ≤ 3) (h9 : ∀ r, r < n → K r r ≤ 9) : evs.length ≤ 27 := by
  obtain ⟨ds, d1, d2, rfl⟩ := h
  rw [List.length_map]
  have := nodup_le ds ((List.range 27).map fun k => (k / 9, k % 9)) d1 (fun d hd => by
    obtain ⟨a, b⟩ := (d2 d).1 hd
    have := h9 d.1 a
    refine List.mem_map.2 ⟨d.1 * 9 + d.2, List.mem_range.2 (by omega), ?_⟩
    have e1 : (d.1 * 9 + d.2) / 9 = d.1 := by omega
    have e2 : (d.1 * 9 + d.2) % 9 = d.2 := by omega
    rw [e1, e2])
  simpa using this

/-- A client's call. -/
theorem call_cl {w : World} {m : CM} {s : CS} (hI : Inv s) {r : Nat} (hr : r < s.n) (h : ClAt w m (s.ahead r)) (hm : s.mode = 0 ∨ s.mode = 1 ∨ s.mode = 2) (kd r0 t0 a0 b0 c0 : Int) (s0 : ByteArray) (hk : 3 ≤ kd ∧ kd ≤ 7)
   (ha1 : -9223372036854775808 ≤ a0) (ha2 : a0 ≤ 9223372036854775807) (hb1 : -9223372036854775808 ≤ b0) (hb2 : b0 ≤ 9223372036854775807) (hc1 : -9223372036854775808 ≤ c0) (hc2 : c0 ≤ 9223372036854775807) (ht1 : -9223372036854775808 ≤ t0) (ht2 : t0 ≤ 9223372036854775807) :
    Calls Tryz.prog 63 #[.pointer (some ⟨m.cb, 0, none⟩), .int .i64 r, .agg (opArr kd r0 t0 a0 b0 c0 s0)] w fun e w' => e = .returned (.bool true) ∧ ∃ m', Moved w w' m m' ((s.ahead r).call r (pickN t0 3).toNat kd (pickN a0 3) (pickN b0 4) (pickN c0 199 - 99)) := by
  obtain ⟨q1, q2⟩ := pickN_bd a0 3 (by decide)
  obtain ⟨q3, q4⟩ := pickN_bd b0 4 (by decide)
  obtain ⟨q5, q6⟩ := pickN_bd c0 199 (by decide)
  obtain ⟨q7, q8⟩ := pickN_bd t0 3 (by decide)
  have hA := fun wx => pick_any a0 3 wx ha1 ha2 (by decide) (by decide)
  have hB := fun wx => pick_any b0 4 wx hb1 hb2 (by decide) (by decide)
  have hC := fun wx => pick_any c0 199 wx hc1 hc2 (by decide) (by decide)
  have hT := fun wx => pick_any t0 3 wx ht1 ht2 (by decide) (by decide)
  generalize pickN a0 3 = ca at *
  generalize pickN b0 4 = it at *
  generalize pickN c0 199 = vv at *
  generalize pickN t0 3 = who at *
  obtain ⟨wn, rfl⟩ : ∃ k : Nat, who = (k : Int) := ⟨who.toNat, by omega⟩
  obtain ⟨v, rfl⟩ : ∃ v, vv = v + 99 := ⟨vv - 99, by omega⟩
  rw [show ((wn : Int)).toNat = wn by omega, show v + 99 - 99 = v by omega]
  have hw3 : wn < 3 := by omega
  obtain ⟨E, V, hCo⟩ := hI.core
  have hi := hCo.rep r hr
  have hfit := hi.ok.fits hi.short
  obtain ⟨tk, htk⟩ : ∃ tk, tk = (s.ahead r).token r wn := ⟨_, rfl⟩
  have htok : isTok s.n tk = true := by rw [htk]; exact hI.token (s := s) hr hw3
  have P : CallPre w m (s.ahead r) r wn kd ca it v tk := ⟨h, hr, hw3, htok, hi.ok.fine.ok, hfit.2.2, rfl, rfl, rfl, q1, q2, q3, q4, by omega, by omega⟩
  have hte : tokErr s.n (s.p r) tk = if staleK (vecL s.n (s.K r)) tk s.n = true then 3 else 0 := by rw [hi.is]; exact tokErr_stale hi.bnd hCo.n3 tk htok
  have hcnt : (s.p r).count (r : Int) = s.K r r := by rw [hi.is]; exact held_count E (by have := hCo.n3; omega) (hi.bnd.nine r)
  have h9 := hi.bnd.nine r
  have hel : s.evs.length ≤ 1000 := by
    have := evs_len hCo.evs hCo.n3 (fun q hq => (hCo.rep q hq).bnd.nine q)
    omega
  have hmt : (s.ahead r).mode = s.mode := rfl
  have hnote : (s.ahead r).token r wn = if s.mode = 2 then s.toks wn else if s.mode = 1 then s.owns r else noughtsL s.n := rfl
  unfold CS.call
  rw [← htk]
  show Calls _ _ _ _ fun e w' => e = .returned (.bool true) ∧ ∃ m', Moved w w' m m' (if kd = 7 then (if tokErr s.n (s.p r) tk = 0 then (s.ahead r).read r wn ca else (s.ahead r).refused wn (tokErr s.n (s.p r) tk)) else if evErr r s.n (s.p r) tk = 0 then (s.ahead r).event r wn kd ca it v else (s.ahead r).refused wn (evErr r s.n (s.p r) tk))
  cases hsv : staleK (vecL s.n (s.K r)) tk s.n
  · rw [hsv, if_neg (by decide)] at hte
    by_cases h7 : kd = 7
    · subst h7
      rw [if_pos rfl, if_pos hte]
      rcases hm with hm | hm | hm
      · exact call_rdone0 P hm (by rw [htk, hnote, hm]; rfl) hsv hte hA hB hC hT
      · exact call_rdone1 P hm (by rw [htk, hnote, hm]; rfl) hsv hte hA hB hC hT
      · exact call_rdone2 P hm (by rw [htk, hnote, hm]; rfl) hsv hte hA hB hC hT
    · rw [if_neg h7]
      have hee : evErr r s.n (s.p r) tk = if 9 ≤ s.K r r then 4 else 0 := by unfold evErr; rw [if_pos hte, hcnt]
      by_cases h9' : s.K r r = 9
      · rw [if_pos (by omega)] at hee
        rw [hee, if_neg (by decide)]
        rcases hm with hm | hm | hm
        · exact call_full0 P (by omega) hm (by rw [htk, hnote, hm]; rfl) hsv h9' hee hA hB hC hT
        · exact call_full1 P (by omega) hm (by rw [htk, hnote, hm]; rfl) hsv h9' hee hA hB hC hT
        · exact call_full2 P (by omega) hm (by rw [htk, hnote, hm]; rfl) hsv h9' hee hA hB hC hT
      · rw [if_neg (by omega)] at hee
        rw [if_pos hee]
        by_cases h4 : kd = 4
        · subst h4
          by_cases hv : v < 0
          · rcases hm with hm | hm | hm
            · exact call_donen0 P hm (by rw [htk, hnote, hm]; rfl) hsv (show s.K r r < 9 by omega) hee hv hel hA hB hC hT
            · exact call_donen1 P hm (by rw [htk, hnote, hm]; rfl) hsv (show s.K r r < 9 by omega) hee hv hel hA hB hC hT
            · exact call_donen2 P hm (by rw [htk, hnote, hm]; rfl) hsv (show s.K r r < 9 by omega) hee hv hel hA hB hC hT
          · rcases hm with hm | hm | hm
            · exact call_donep0 P hm (by rw [htk, hnote, hm]; rfl) hsv (show s.K r r < 9 by omega) hee (by omega) hel hA hB hC hT
            · exact call_donep1 P hm (by rw [htk, hnote, hm]; rfl) hsv (show s.K r r < 9 by omega) hee (by omega) hel hA hB hC hT
            · exact call_donep2 P hm (by rw [htk, hnote, hm]; rfl) hsv (show s.K r r < 9 by omega) hee (by omega) hel hA hB hC hT
        · rcases hm with hm | hm | hm
          · exact call_doneo0 P (by omega) hm (by rw [htk, hnote, hm]; rfl) hsv (show s.K r r < 9 by omega) hee h4 hel hA hB hC hT
          · exact call_doneo1 P (by omega) hm (by rw [htk, hnote, hm]; rfl) hsv (show s.K r r < 9 by omega) hee h4 hel hA hB hC hT
          · exact call_doneo2 P (by omega) hm (by rw [htk, hnote, hm]; rfl) hsv (show s.K r r < 9 by omega) hee h4 hel hA hB hC hT
  · rw [hsv, if_pos rfl] at hte
    by_cases h7 : kd = 7
    · subst h7
      rw [if_pos rfl, hte, if_neg (by decide)]
      rcases hm with hm | hm | hm
      · exact call_rstale0 P hm (by rw [htk, hnote, hm]; rfl) hsv hte hA hB hC hT
      · exact call_rstale1 P hm (by rw [htk, hnote, hm]; rfl) hsv hte hA hB hC hT
      · exact call_rstale2 P hm (by rw [htk, hnote, hm]; rfl) hsv hte hA hB hC hT
    · rw [if_neg h7]
      have hee : evErr r s.n (s.p r) tk = 3 := by unfold evErr; rw [hte, if_neg (by decide)]
      rw [hee, if_neg (by decide)]
      rcases hm with hm | hm | hm
      · exact call_stale0 P (by omega) hm (by rw [htk, hnote, hm]; rfl) hsv hee hA hB hC hT
      · exact call_stale1 P (by omega) hm (by rw [htk, hnote, hm]; rfl) hsv hee hA hB hC hT
      · exact call_stale2 P (by omega) hm (by rw [htk, hnote, hm]; rfl) hsv hee hA hB hC hT
end Go.Proofs.YtalaldfgjgpacaaGreatDoor

namespace Go.Proofs.YtalaldfgjgpacaaGreatDoor
set_option linter.unusedVariables false
set_option linter.unusedSimpArgs false
open Go.RowKit

/-- A replica stops, and begins anew. -/
theorem crash_cl {w : World} {m : CM} {s : CS} (hI : Inv s) {r : Nat} (hr : r < s.n) (h : ClAt w m s) (hll : s.lg.length ≤ 100000) (k : Int) (hk1 : -9223372036854775808 ≤ k) (hk2 : k ≤ 9223372036854775807) :
    Calls Tryz.prog 61 #[.pointer (some ⟨m.cb, 0, none⟩), .int .i64 r, .int .i64 k] w fun e w' => e = .returned (.bool true) ∧ ∃ m', Moved w w' m m' (s.crash r k) := by
  obtain ⟨p0, x0, C⟩ := hI.crash hr k
  obtain ⟨E, V, hC⟩ := hI.core
  have hi := hC.rep r hr
  have hfit := hi.ok.fits hi.short
  have hp := hi.ok.fine.ok
  by_cases hl : s.last = r
  · by_cases hne : (s.x r).log = s.lg
    · have h0 : s.cut r k = 0 := by unfold CS.cut; rw [if_neg (fun x => x.2 hne)]
      exact crash_a2 h hr hp hll hfit.1 hl hne C h0
    · have hsn : s.nevs ≤ s.evs.length ∧ s.nwire ≤ s.wire.length ∧ s.nacks ≤ s.acks.length := by
        rcases hI.snap with e | ⟨r', _, _, b1, b2, b3, _⟩
        · rw [hl] at e; omega
        · exact ⟨b1, b2, b3⟩
      cases hb : ((s.x r).log.take s.lg.length == s.lg)
      · by_cases h0 : s.cut r k = 0
        · exact crash_c0 h hr hp hll hfit.1 hl hne hb hk1 hk2 C h0
        · by_cases hcl : 0 ≤ s.client
          · exact crash_c1p h hr hp hll hfit.1 hl hne hb hcl (hI.tok hcl).1 hk1 hk2 hsn.1 hsn.2.1 hsn.2.2 C h0
          · exact crash_c1n h hr hp hll hfit.1 hl hne hb (by omega) hk1 hk2 hsn.1 hsn.2.1 hsn.2.2 C h0
      · by_cases h0 : s.cut r k = 0
        · exact crash_b0 h hr hp hll hfit.1 hl hne hb hk1 hk2 C h0
        · by_cases hcl : 0 ≤ s.client
          · exact crash_b1p h hr hp hll hfit.1 hl hne hb hcl (hI.tok hcl).1 hk1 hk2 hsn.1 hsn.2.1 hsn.2.2 C h0
          · exact crash_b1n h hr hp hll hfit.1 hl hne hb (by omega) hk1 hk2 hsn.1 hsn.2.1 hsn.2.2 C h0
  · have h0 : s.cut r k = 0 := by unfold CS.cut; rw [if_neg (fun x => hl x.1)]
    exact crash_a1 h hr hp hll hfit.1 hl C h0
end Go.Proofs.YtalaldfgjgpacaaGreatDoor

namespace Go.Proofs.YtalaldfgjgpacaaGreatDoor
set_option linter.unusedVariables false
set_option linter.unusedSimpArgs false
open Go.RowKit
attribute [local go_sem ↓] Go.wp_at_zero Go.wp_at_succ

set_option maxRecDepth 100000 in
set_option maxHeartbeats 8000000 in
theorem step_call3 {w : World} {m : CM} {s : CS} (hI : Inv s) (h : ClAt w m s) (hm : s.mode = 0 ∨ s.mode = 1 ∨ s.mode = 2) (hll : s.lg.length ≤ 100000) (hwl : s.wire.length ≤ 10000000) (hal : s.acks.length ≤ 10000000) {r0 t0 a0 b0 c0 : Int} {s0 : ByteArray} (hr1 : -9223372036854775808 ≤ r0) (hr2 : r0 ≤ 9223372036854775807) (ht1 : -9223372036854775808 ≤ t0) (ht2 : t0 ≤ 9223372036854775807) (ha1 : -9223372036854775808 ≤ a0) (ha2 : a0 ≤ 9223372036854775807) (hb1 : -9223372036854775808 ≤ b0) (hb2 : b0 ≤ 9223372036854775807) (hc1 : -9223372036854775808 ≤ c0) (hc2 : c0 ≤ 9223372036854775807)  :
    Calls Tryz.prog 25 #[.pointer (some ⟨m.cb, 0, none⟩), .agg (opArr 3 r0 t0 a0 b0 c0 s0)] w fun e w' => e = .returned (.bool true) ∧ ∃ m', Moved w w' m m' ((s.ahead (pickN r0 s.n).toNat).call (pickN r0 s.n).toNat (pickN t0 3).toNat 3 (pickN a0 3) (pickN b0 4) (pickN c0 199 - 99)) := by
  have hn3 := h.n3
  have hn1 := h.n1
  obtain ⟨F, hF⟩ : ∃ F : World → Prop, F = fun w' => ∃ m', Moved w w' m m' ((s.ahead (pickN r0 s.n).toNat).call (pickN r0 s.n).toNat (pickN t0 3).toNat 3 (pickN a0 3) (pickN b0 4) (pickN c0 199 - 99)) := ⟨_, rfl⟩
  rw [show (fun e w' => e = Ending.returned (.bool true) ∧ ∃ m', Moved w w' m m' ((s.ahead (pickN r0 s.n).toNat).call (pickN r0 s.n).toNat (pickN t0 3).toNat 3 (pickN a0 3) (pickN b0 4) (pickN c0 199 - 99))) = fun e w' => e = Ending.returned (.bool true) ∧ F w' by rw [hF]]
  have HF := hid hF
  have HPR := hid (fun wx => pick_any r0 s.n wx hr1 hr2 (by omega) (by omega))
  obtain ⟨q1, q2⟩ := pickN_bd r0 s.n (by omega)
  obtain ⟨r, hrr⟩ : ∃ r : Nat, pickN r0 s.n = (r : Int) := ⟨(pickN r0 s.n).toNat, by omega⟩
  have hrt : (pickN r0 s.n).toNat = r := by omega
  rw [hrr] at HPR
  have hr : r < s.n := by omega
  have HRT := hid hrt
  obtain ⟨W0, hW0⟩ : ∃ W0, W0 = w.alloc (.cells #[.int .i64 3, .int .i64 r0, .int .i64 t0, .int .i64 a0, .int .i64 b0, .int .i64 c0, .string s0] 46) := ⟨_, rfl⟩
  have B0 : Blw w W0.drew := by rw [hW0]; exact ((Blw.rfl w).al _).dr
  have h1 := h.blw B0
  have O1 : OpAt W0.drew w.heap.size 3 r0 t0 a0 b0 c0 s0 := ⟨by rw [hW0]; exact hp_new w _⟩
  obtain ⟨f0, f1, f2, f3, f4, f5, f6⟩ := O1.cells
  have hno : ¬ m.own w.heap.size := fun e => Nat.lt_irrefl _ (h.lim _ e)
  have S1 := hid (show (W0.drew.cell? ⟨w.heap.size, 1, none⟩ = some (.int .i64 r0) ∧ W0.drew.cell? ⟨m.cb, 0, none⟩ = some (.int .i64 s.n)) from ⟨f1, by rw [h1.cell]; rfl⟩)
  have H1 := hid (And.intro h1 (And.intro B0 O1))
  have HW0 := hid hW0
  have HI := hid hI
  clear hF hrr hrt q1 q2 hW0 B0 h1 O1 h
  unfold opArr
  obtain ⟨E, V, hCo⟩ := hI.core
  have HAH := hid (ahead_cl H1.out.1 hr (hCo.rep r hr).ok.fine.ok)
  clear hCo
  go_enter Tryz.func25, Tryz.ntmps25
  go_wp2
  rw [← HW0.out]
  go_region_held3 (fun w' => w'.cell? ⟨w.heap.size, 1, none⟩ = some (.int .i64 r0) ∧ w'.cell? ⟨m.cb, 0, none⟩ = some (.int .i64 s.n)) (first | exact S1.out)
    (first | (go_at_call 21; refine (HPR.out _).mono ?_; rintro e w1 ⟨rfl, hw⟩; subst hw))
  go_wp2_with fail
  refine HAH.out.mono ?_
  rintro e w2 ⟨rfl, m2, M2⟩
  have e2 := M2.cb
  have O2 : OpAt w2 w.heap.size 3 r0 t0 a0 b0 c0 s0 := ⟨M2.kp.keep H1.out.2.2.blk hno⟩
  obtain ⟨g0, g1, g2, g3, g4, g5, g6⟩ := O2.cells
  have M02 := (Moved.mk H1.out.1 (H1.out.2.1.kp _) (fun k hk => Or.inl hk) rfl (fun k hk => hk) : Moved w W0.drew m m s).tr M2
  have HCA := hid (call_cl HI.out hr M2.cl hm 3 r0 t0 a0 b0 c0 s0 (by decide) ha1 ha2 hb1 hb2 hc1 hc2 ht1 ht2)
  rw [e2] at HCA
  have M2h := hid M02
  unfold opArr at HCA
  clear M2 M02 O2 f0 f1 f2 f3 f4 f5 f6
  go_wp2_with fail
  refine HCA.out.mono ?_
  rintro e w3 ⟨rfl, m3, M3⟩
  have FIN : Hid (F w3) := by
    show F _
    rw [HF.out, HRT.out]
    exact ⟨m3, M2h.out.tr M3⟩
  clear M3
  go_wp2
  go_ret
  exact ⟨rfl, FIN.out⟩

set_option maxRecDepth 100000 in
set_option maxHeartbeats 8000000 in
theorem step_call4 {w : World} {m : CM} {s : CS} (hI : Inv s) (h : ClAt w m s) (hm : s.mode = 0 ∨ s.mode = 1 ∨ s.mode = 2) (hll : s.lg.length ≤ 100000) (hwl : s.wire.length ≤ 10000000) (hal : s.acks.length ≤ 10000000) {r0 t0 a0 b0 c0 : Int} {s0 : ByteArray} (hr1 : -9223372036854775808 ≤ r0) (hr2 : r0 ≤ 9223372036854775807) (ht1 : -9223372036854775808 ≤ t0) (ht2 : t0 ≤ 9223372036854775807) (ha1 : -9223372036854775808 ≤ a0) (ha2 : a0 ≤ 9223372036854775807) (hb1 : -9223372036854775808 ≤ b0) (hb2 : b0 ≤ 9223372036854775807) (hc1 : -9223372036854775808 ≤ c0) (hc2 : c0 ≤ 9223372036854775807)  :
    Calls Tryz.prog 25 #[.pointer (some ⟨m.cb, 0, none⟩), .agg (opArr 4 r0 t0 a0 b0 c0 s0)] w fun e w' => e = .returned (.bool true) ∧ ∃ m', Moved w w' m m' ((s.ahead (pickN r0 s.n).toNat).call (pickN r0 s.n).toNat (pickN t0 3).toNat 4 (pickN a0 3) (pickN b0 4) (pickN c0 199 - 99)) := by
  have hn3 := h.n3
  have hn1 := h.n1
  obtain ⟨F, hF⟩ : ∃ F : World → Prop, F = fun w' => ∃ m', Moved w w' m m' ((s.ahead (pickN r0 s.n).toNat).call (pickN r0 s.n).toNat (pickN t0 3).toNat 4 (pickN a0 3) (pickN b0 4) (pickN c0 199 - 99)) := ⟨_, rfl⟩
  rw [show (fun e w' => e = Ending.returned (.bool true) ∧ ∃ m', Moved w w' m m' ((s.ahead (pickN r0 s.n).toNat).call (pickN r0 s.n).toNat (pickN t0 3).toNat 4 (pickN a0 3) (pickN b0 4) (pickN c0 199 - 99))) = fun e w' => e = Ending.returned (.bool true) ∧ F w' by rw [hF]]
  have HF := hid hF
  have HPR := hid (fun wx => pick_any r0 s.n wx hr1 hr2 (by omega) (by omega))
  obtain ⟨q1, q2⟩ := pickN_bd r0 s.n (by omega)
  obtain ⟨r, hrr⟩ : ∃ r : Nat, pickN r0 s.n = (r : Int) := ⟨(pickN r0 s.n).toNat, by omega⟩
  have hrt : (pickN r0 s.n).toNat = r := by omega
  rw [hrr] at HPR
  have hr : r < s.n := by omega
  have HRT := hid hrt
  obtain ⟨W0, hW0⟩ : ∃ W0, W0 = w.alloc (.cells #[.int .i64 4, .int .i64 r0, .int .i64 t0, .int .i64 a0, .int .i64 b0, .int .i64 c0, .string s0] 46) := ⟨_, rfl⟩
  have B0 : Blw w W0.drew := by rw [hW0]; exact ((Blw.rfl w).al _).dr
  have h1 := h.blw B0
  have O1 : OpAt W0.drew w.heap.size 4 r0 t0 a0 b0 c0 s0 := ⟨by rw [hW0]; exact hp_new w _⟩
  obtain ⟨f0, f1, f2, f3, f4, f5, f6⟩ := O1.cells
  have hno : ¬ m.own w.heap.size := fun e => Nat.lt_irrefl _ (h.lim _ e)
  have S1 := hid (show (W0.drew.cell? ⟨w.heap.size, 1, none⟩ = some (.int .i64 r0) ∧ W0.drew.cell? ⟨m.cb, 0, none⟩ = some (.int .i64 s.n)) from ⟨f1, by rw [h1.cell]; rfl⟩)
  have H1 := hid (And.intro h1 (And.intro B0 O1))
  have HW0 := hid hW0
  have HI := hid hI
  clear hF hrr hrt q1 q2 hW0 B0 h1 O1 h
  unfold opArr
  obtain ⟨E, V, hCo⟩ := hI.core
  have HAH := hid (ahead_cl H1.out.1 hr (hCo.rep r hr).ok.fine.ok)
  clear hCo
  go_enter Tryz.func25, Tryz.ntmps25
  go_wp2
  rw [← HW0.out]
  go_region_held3 (fun w' => w'.cell? ⟨w.heap.size, 1, none⟩ = some (.int .i64 r0) ∧ w'.cell? ⟨m.cb, 0, none⟩ = some (.int .i64 s.n)) (first | exact S1.out)
    (first | (go_at_call 21; refine (HPR.out _).mono ?_; rintro e w1 ⟨rfl, hw⟩; subst hw))
  go_wp2_with fail
  refine HAH.out.mono ?_
  rintro e w2 ⟨rfl, m2, M2⟩
  have e2 := M2.cb
  have O2 : OpAt w2 w.heap.size 4 r0 t0 a0 b0 c0 s0 := ⟨M2.kp.keep H1.out.2.2.blk hno⟩
  obtain ⟨g0, g1, g2, g3, g4, g5, g6⟩ := O2.cells
  have M02 := (Moved.mk H1.out.1 (H1.out.2.1.kp _) (fun k hk => Or.inl hk) rfl (fun k hk => hk) : Moved w W0.drew m m s).tr M2
  have HCA := hid (call_cl HI.out hr M2.cl hm 4 r0 t0 a0 b0 c0 s0 (by decide) ha1 ha2 hb1 hb2 hc1 hc2 ht1 ht2)
  rw [e2] at HCA
  have M2h := hid M02
  unfold opArr at HCA
  clear M2 M02 O2 f0 f1 f2 f3 f4 f5 f6
  go_wp2_with fail
  refine HCA.out.mono ?_
  rintro e w3 ⟨rfl, m3, M3⟩
  have FIN : Hid (F w3) := by
    show F _
    rw [HF.out, HRT.out]
    exact ⟨m3, M2h.out.tr M3⟩
  clear M3
  go_wp2
  go_ret
  exact ⟨rfl, FIN.out⟩

set_option maxRecDepth 100000 in
set_option maxHeartbeats 8000000 in
theorem step_call5 {w : World} {m : CM} {s : CS} (hI : Inv s) (h : ClAt w m s) (hm : s.mode = 0 ∨ s.mode = 1 ∨ s.mode = 2) (hll : s.lg.length ≤ 100000) (hwl : s.wire.length ≤ 10000000) (hal : s.acks.length ≤ 10000000) {r0 t0 a0 b0 c0 : Int} {s0 : ByteArray} (hr1 : -9223372036854775808 ≤ r0) (hr2 : r0 ≤ 9223372036854775807) (ht1 : -9223372036854775808 ≤ t0) (ht2 : t0 ≤ 9223372036854775807) (ha1 : -9223372036854775808 ≤ a0) (ha2 : a0 ≤ 9223372036854775807) (hb1 : -9223372036854775808 ≤ b0) (hb2 : b0 ≤ 9223372036854775807) (hc1 : -9223372036854775808 ≤ c0) (hc2 : c0 ≤ 9223372036854775807)  :
    Calls Tryz.prog 25 #[.pointer (some ⟨m.cb, 0, none⟩), .agg (opArr 5 r0 t0 a0 b0 c0 s0)] w fun e w' => e = .returned (.bool true) ∧ ∃ m', Moved w w' m m' ((s.ahead (pickN r0 s.n).toNat).call (pickN r0 s.n).toNat (pickN t0 3).toNat 5 (pickN a0 3) (pickN b0 4) (pickN c0 199 - 99)) := by
  have hn3 := h.n3
  have hn1 := h.n1
  obtain ⟨F, hF⟩ : ∃ F : World → Prop, F = fun w' => ∃ m', Moved w w' m m' ((s.ahead (pickN r0 s.n).toNat).call (pickN r0 s.n).toNat (pickN t0 3).toNat 5 (pickN a0 3) (pickN b0 4) (pickN c0 199 - 99)) := ⟨_, rfl⟩
  rw [show (fun e w' => e = Ending.returned (.bool true) ∧ ∃ m', Moved w w' m m' ((s.ahead (pickN r0 s.n).toNat).call (pickN r0 s.n).toNat (pickN t0 3).toNat 5 (pickN a0 3) (pickN b0 4) (pickN c0 199 - 99))) = fun e w' => e = Ending.returned (.bool true) ∧ F w' by rw [hF]]
  have HF := hid hF
  have HPR := hid (fun wx => pick_any r0 s.n wx hr1 hr2 (by omega) (by omega))
  obtain ⟨q1, q2⟩ := pickN_bd r0 s.n (by omega)
  obtain ⟨r, hrr⟩ : ∃ r : Nat, pickN r0 s.n = (r : Int) := ⟨(pickN r0 s.n).toNat, by omega⟩
  have hrt : (pickN r0 s.n).toNat = r := by omega
  rw [hrr] at HPR
  have hr : r < s.n := by omega
  have HRT := hid hrt
  obtain ⟨W0, hW0⟩ : ∃ W0, W0 = w.alloc (.cells #[.int .i64 5, .int .i64 r0, .int .i64 t0, .int .i64 a0, .int .i64 b0, .int .i64 c0, .string s0] 46) := ⟨_, rfl⟩
  have B0 : Blw w W0.drew := by rw [hW0]; exact ((Blw.rfl w).al _).dr
  have h1 := h.blw B0
  have O1 : OpAt W0.drew w.heap.size 5 r0 t0 a0 b0 c0 s0 := ⟨by rw [hW0]; exact hp_new w _⟩
  obtain ⟨f0, f1, f2, f3, f4, f5, f6⟩ := O1.cells
  have hno : ¬ m.own w.heap.size := fun e => Nat.lt_irrefl _ (h.lim _ e)
  have S1 := hid (show (W0.drew.cell? ⟨w.heap.size, 1, none⟩ = some (.int .i64 r0) ∧ W0.drew.cell? ⟨m.cb, 0, none⟩ = some (.int .i64 s.n)) from ⟨f1, by rw [h1.cell]; rfl⟩)
  have H1 := hid (And.intro h1 (And.intro B0 O1))
  have HW0 := hid hW0
  have HI := hid hI
  clear hF hrr hrt q1 q2 hW0 B0 h1 O1 h
  unfold opArr
  obtain ⟨E, V, hCo⟩ := hI.core
  have HAH := hid (ahead_cl H1.out.1 hr (hCo.rep r hr).ok.fine.ok)
  clear hCo
  go_enter Tryz.func25, Tryz.ntmps25
  go_wp2
  rw [← HW0.out]
  go_region_held3 (fun w' => w'.cell? ⟨w.heap.size, 1, none⟩ = some (.int .i64 r0) ∧ w'.cell? ⟨m.cb, 0, none⟩ = some (.int .i64 s.n)) (first | exact S1.out)
    (first | (go_at_call 21; refine (HPR.out _).mono ?_; rintro e w1 ⟨rfl, hw⟩; subst hw))
  go_wp2_with fail
  refine HAH.out.mono ?_
  rintro e w2 ⟨rfl, m2, M2⟩
  have e2 := M2.cb
  have O2 : OpAt w2 w.heap.size 5 r0 t0 a0 b0 c0 s0 := ⟨M2.kp.keep H1.out.2.2.blk hno⟩
  obtain ⟨g0, g1, g2, g3, g4, g5, g6⟩ := O2.cells
  have M02 := (Moved.mk H1.out.1 (H1.out.2.1.kp _) (fun k hk => Or.inl hk) rfl (fun k hk => hk) : Moved w W0.drew m m s).tr M2
  have HCA := hid (call_cl HI.out hr M2.cl hm 5 r0 t0 a0 b0 c0 s0 (by decide) ha1 ha2 hb1 hb2 hc1 hc2 ht1 ht2)
  rw [e2] at HCA
  have M2h := hid M02
  unfold opArr at HCA
  clear M2 M02 O2 f0 f1 f2 f3 f4 f5 f6
  go_wp2_with fail
  refine HCA.out.mono ?_
  rintro e w3 ⟨rfl, m3, M3⟩
  have FIN : Hid (F w3) := by
    show F _
    rw [HF.out, HRT.out]
    exact ⟨m3, M2h.out.tr M3⟩
  clear M3
  go_wp2
  go_ret
  exact ⟨rfl, FIN.out⟩

set_option maxRecDepth 100000 in
set_option maxHeartbeats 8000000 in
theorem step_call6 {w : World} {m : CM} {s : CS} (hI : Inv s) (h : ClAt w m s) (hm : s.mode = 0 ∨ s.mode = 1 ∨ s.mode = 2) (hll : s.lg.length ≤ 100000) (hwl : s.wire.length ≤ 10000000) (hal : s.acks.length ≤ 10000000) {r0 t0 a0 b0 c0 : Int} {s0 : ByteArray} (hr1 : -9223372036854775808 ≤ r0) (hr2 : r0 ≤ 9223372036854775807) (ht1 : -9223372036854775808 ≤ t0) (ht2 : t0 ≤ 9223372036854775807) (ha1 : -9223372036854775808 ≤ a0) (ha2 : a0 ≤ 9223372036854775807) (hb1 : -9223372036854775808 ≤ b0) (hb2 : b0 ≤ 9223372036854775807) (hc1 : -9223372036854775808 ≤ c0) (hc2 : c0 ≤ 9223372036854775807)  :
    Calls Tryz.prog 25 #[.pointer (some ⟨m.cb, 0, none⟩), .agg (opArr 6 r0 t0 a0 b0 c0 s0)] w fun e w' => e = .returned (.bool true) ∧ ∃ m', Moved w w' m m' ((s.ahead (pickN r0 s.n).toNat).call (pickN r0 s.n).toNat (pickN t0 3).toNat 6 (pickN a0 3) (pickN b0 4) (pickN c0 199 - 99)) := by
  have hn3 := h.n3
  have hn1 := h.n1
  obtain ⟨F, hF⟩ : ∃ F : World → Prop, F = fun w' => ∃ m', Moved w w' m m' ((s.ahead (pickN r0 s.n).toNat).call (pickN r0 s.n).toNat (pickN t0 3).toNat 6 (pickN a0 3) (pickN b0 4) (pickN c0 199 - 99)) := ⟨_, rfl⟩
  rw [show (fun e w' => e = Ending.returned (.bool true) ∧ ∃ m', Moved w w' m m' ((s.ahead (pickN r0 s.n).toNat).call (pickN r0 s.n).toNat (pickN t0 3).toNat 6 (pickN a0 3) (pickN b0 4) (pickN c0 199 - 99))) = fun e w' => e = Ending.returned (.bool true) ∧ F w' by rw [hF]]
  have HF := hid hF
  have HPR := hid (fun wx => pick_any r0 s.n wx hr1 hr2 (by omega) (by omega))
  obtain ⟨q1, q2⟩ := pickN_bd r0 s.n (by omega)
  obtain ⟨r, hrr⟩ : ∃ r : Nat, pickN r0 s.n = (r : Int) := ⟨(pickN r0 s.n).toNat, by omega⟩
  have hrt : (pickN r0 s.n).toNat = r := by omega
  rw [hrr] at HPR
  have hr : r < s.n := by omega
  have HRT := hid hrt
  obtain ⟨W0, hW0⟩ : ∃ W0, W0 = w.alloc (.cells #[.int .i64 6, .int .i64 r0, .int .i64 t0, .int .i64 a0, .int .i64 b0, .int .i64 c0, .string s0] 46) := ⟨_, rfl⟩
  have B0 : Blw w W0.drew := by rw [hW0]; exact ((Blw.rfl w).al _).dr
  have h1 := h.blw B0
  have O1 : OpAt W0.drew w.heap.size 6 r0 t0 a0 b0 c0 s0 := ⟨by rw [hW0]; exact hp_new w _⟩
  obtain ⟨f0, f1, f2, f3, f4, f5, f6⟩ := O1.cells
  have hno : ¬ m.own w.heap.size := fun e => Nat.lt_irrefl _ (h.lim _ e)
  have S1 := hid (show (W0.drew.cell? ⟨w.heap.size, 1, none⟩ = some (.int .i64 r0) ∧ W0.drew.cell? ⟨m.cb, 0, none⟩ = some (.int .i64 s.n)) from ⟨f1, by rw [h1.cell]; rfl⟩)
  have H1 := hid (And.intro h1 (And.intro B0 O1))
  have HW0 := hid hW0
  have HI := hid hI
  clear hF hrr hrt q1 q2 hW0 B0 h1 O1 h
  unfold opArr
  obtain ⟨E, V, hCo⟩ := hI.core
  have HAH := hid (ahead_cl H1.out.1 hr (hCo.rep r hr).ok.fine.ok)
  clear hCo
  go_enter Tryz.func25, Tryz.ntmps25
  go_wp2
  rw [← HW0.out]
  go_region_held3 (fun w' => w'.cell? ⟨w.heap.size, 1, none⟩ = some (.int .i64 r0) ∧ w'.cell? ⟨m.cb, 0, none⟩ = some (.int .i64 s.n)) (first | exact S1.out)
    (first | (go_at_call 21; refine (HPR.out _).mono ?_; rintro e w1 ⟨rfl, hw⟩; subst hw))
  go_wp2_with fail
  refine HAH.out.mono ?_
  rintro e w2 ⟨rfl, m2, M2⟩
  have e2 := M2.cb
  have O2 : OpAt w2 w.heap.size 6 r0 t0 a0 b0 c0 s0 := ⟨M2.kp.keep H1.out.2.2.blk hno⟩
  obtain ⟨g0, g1, g2, g3, g4, g5, g6⟩ := O2.cells
  have M02 := (Moved.mk H1.out.1 (H1.out.2.1.kp _) (fun k hk => Or.inl hk) rfl (fun k hk => hk) : Moved w W0.drew m m s).tr M2
  have HCA := hid (call_cl HI.out hr M2.cl hm 6 r0 t0 a0 b0 c0 s0 (by decide) ha1 ha2 hb1 hb2 hc1 hc2 ht1 ht2)
  rw [e2] at HCA
  have M2h := hid M02
  unfold opArr at HCA
  clear M2 M02 O2 f0 f1 f2 f3 f4 f5 f6
  go_wp2_with fail
  refine HCA.out.mono ?_
  rintro e w3 ⟨rfl, m3, M3⟩
  have FIN : Hid (F w3) := by
    show F _
    rw [HF.out, HRT.out]
    exact ⟨m3, M2h.out.tr M3⟩
  clear M3
  go_wp2
  go_ret
  exact ⟨rfl, FIN.out⟩

set_option maxRecDepth 100000 in
set_option maxHeartbeats 8000000 in
theorem step_call7 {w : World} {m : CM} {s : CS} (hI : Inv s) (h : ClAt w m s) (hm : s.mode = 0 ∨ s.mode = 1 ∨ s.mode = 2) (hll : s.lg.length ≤ 100000) (hwl : s.wire.length ≤ 10000000) (hal : s.acks.length ≤ 10000000) {r0 t0 a0 b0 c0 : Int} {s0 : ByteArray} (hr1 : -9223372036854775808 ≤ r0) (hr2 : r0 ≤ 9223372036854775807) (ht1 : -9223372036854775808 ≤ t0) (ht2 : t0 ≤ 9223372036854775807) (ha1 : -9223372036854775808 ≤ a0) (ha2 : a0 ≤ 9223372036854775807) (hb1 : -9223372036854775808 ≤ b0) (hb2 : b0 ≤ 9223372036854775807) (hc1 : -9223372036854775808 ≤ c0) (hc2 : c0 ≤ 9223372036854775807)  :
    Calls Tryz.prog 25 #[.pointer (some ⟨m.cb, 0, none⟩), .agg (opArr 7 r0 t0 a0 b0 c0 s0)] w fun e w' => e = .returned (.bool true) ∧ ∃ m', Moved w w' m m' ((s.ahead (pickN r0 s.n).toNat).call (pickN r0 s.n).toNat (pickN t0 3).toNat 7 (pickN a0 3) (pickN b0 4) (pickN c0 199 - 99)) := by
  have hn3 := h.n3
  have hn1 := h.n1
  obtain ⟨F, hF⟩ : ∃ F : World → Prop, F = fun w' => ∃ m', Moved w w' m m' ((s.ahead (pickN r0 s.n).toNat).call (pickN r0 s.n).toNat (pickN t0 3).toNat 7 (pickN a0 3) (pickN b0 4) (pickN c0 199 - 99)) := ⟨_, rfl⟩
  rw [show (fun e w' => e = Ending.returned (.bool true) ∧ ∃ m', Moved w w' m m' ((s.ahead (pickN r0 s.n).toNat).call (pickN r0 s.n).toNat (pickN t0 3).toNat 7 (pickN a0 3) (pickN b0 4) (pickN c0 199 - 99))) = fun e w' => e = Ending.returned (.bool true) ∧ F w' by rw [hF]]
  have HF := hid hF
  have HPR := hid (fun wx => pick_any r0 s.n wx hr1 hr2 (by omega) (by omega))
  obtain ⟨q1, q2⟩ := pickN_bd r0 s.n (by omega)
  obtain ⟨r, hrr⟩ : ∃ r : Nat, pickN r0 s.n = (r : Int) := ⟨(pickN r0 s.n).toNat, by omega⟩
  have hrt : (pickN r0 s.n).toNat = r := by omega
  rw [hrr] at HPR
  have hr : r < s.n := by omega
  have HRT := hid hrt
  obtain ⟨W0, hW0⟩ : ∃ W0, W0 = w.alloc (.cells #[.int .i64 7, .int .i64 r0, .int .i64 t0, .int .i64 a0, .int .i64 b0, .int .i64 c0, .string s0] 46) := ⟨_, rfl⟩
  have B0 : Blw w W0.drew := by rw [hW0]; exact ((Blw.rfl w).al _).dr
  have h1 := h.blw B0
  have O1 : OpAt W0.drew w.heap.size 7 r0 t0 a0 b0 c0 s0 := ⟨by rw [hW0]; exact hp_new w _⟩
  obtain ⟨f0, f1, f2, f3, f4, f5, f6⟩ := O1.cells
  have hno : ¬ m.own w.heap.size := fun e => Nat.lt_irrefl _ (h.lim _ e)
  have S1 := hid (show (W0.drew.cell? ⟨w.heap.size, 1, none⟩ = some (.int .i64 r0) ∧ W0.drew.cell? ⟨m.cb, 0, none⟩ = some (.int .i64 s.n)) from ⟨f1, by rw [h1.cell]; rfl⟩)
  have H1 := hid (And.intro h1 (And.intro B0 O1))
  have HW0 := hid hW0
  have HI := hid hI
  clear hF hrr hrt q1 q2 hW0 B0 h1 O1 h
  unfold opArr
  obtain ⟨E, V, hCo⟩ := hI.core
  have HAH := hid (ahead_cl H1.out.1 hr (hCo.rep r hr).ok.fine.ok)
  clear hCo
  go_enter Tryz.func25, Tryz.ntmps25
  go_wp2
  rw [← HW0.out]
  go_region_held3 (fun w' => w'.cell? ⟨w.heap.size, 1, none⟩ = some (.int .i64 r0) ∧ w'.cell? ⟨m.cb, 0, none⟩ = some (.int .i64 s.n)) (first | exact S1.out)
    (first | (go_at_call 21; refine (HPR.out _).mono ?_; rintro e w1 ⟨rfl, hw⟩; subst hw))
  go_wp2_with fail
  refine HAH.out.mono ?_
  rintro e w2 ⟨rfl, m2, M2⟩
  have e2 := M2.cb
  have O2 : OpAt w2 w.heap.size 7 r0 t0 a0 b0 c0 s0 := ⟨M2.kp.keep H1.out.2.2.blk hno⟩
  obtain ⟨g0, g1, g2, g3, g4, g5, g6⟩ := O2.cells
  have M02 := (Moved.mk H1.out.1 (H1.out.2.1.kp _) (fun k hk => Or.inl hk) rfl (fun k hk => hk) : Moved w W0.drew m m s).tr M2
  have HCA := hid (call_cl HI.out hr M2.cl hm 7 r0 t0 a0 b0 c0 s0 (by decide) ha1 ha2 hb1 hb2 hc1 hc2 ht1 ht2)
  rw [e2] at HCA
  have M2h := hid M02
  unfold opArr at HCA
  clear M2 M02 O2 f0 f1 f2 f3 f4 f5 f6
  go_wp2_with fail
  refine HCA.out.mono ?_
  rintro e w3 ⟨rfl, m3, M3⟩
  have FIN : Hid (F w3) := by
    show F _
    rw [HF.out, HRT.out]
    exact ⟨m3, M2h.out.tr M3⟩
  clear M3
  go_wp2
  go_ret
  exact ⟨rfl, FIN.out⟩

end Go.Proofs.YtalaldfgjgpacaaGreatDoor

namespace Go.Proofs.YtalaldfgjgpacaaGreatDoor
set_option linter.unusedVariables false
set_option linter.unusedSimpArgs false
open Go.RowKit
attribute [local go_sem ↓] Go.wp_at_zero Go.wp_at_succ

set_option maxRecDepth 100000 in
set_option maxHeartbeats 8000000 in
theorem step_crash {w : World} {m : CM} {s : CS} (hI : Inv s) (h : ClAt w m s) (hm : s.mode = 0 ∨ s.mode = 1 ∨ s.mode = 2) (hll : s.lg.length ≤ 100000) (hwl : s.wire.length ≤ 10000000) (hal : s.acks.length ≤ 10000000) {r0 t0 a0 b0 c0 : Int} {s0 : ByteArray} (hr1 : -9223372036854775808 ≤ r0) (hr2 : r0 ≤ 9223372036854775807) (ht1 : -9223372036854775808 ≤ t0) (ht2 : t0 ≤ 9223372036854775807) (ha1 : -9223372036854775808 ≤ a0) (ha2 : a0 ≤ 9223372036854775807) (hb1 : -9223372036854775808 ≤ b0) (hb2 : b0 ≤ 9223372036854775807) (hc1 : -9223372036854775808 ≤ c0) (hc2 : c0 ≤ 9223372036854775807)  :
    Calls Tryz.prog 25 #[.pointer (some ⟨m.cb, 0, none⟩), .agg (opArr 10 r0 t0 a0 b0 c0 s0)] w fun e w' => e = .returned (.bool true) ∧ ∃ m', Moved w w' m m' (s.crash (pickN r0 s.n).toNat b0) := by
  have hn3 := h.n3
  have hn1 := h.n1
  obtain ⟨F, hF⟩ : ∃ F : World → Prop, F = fun w' => ∃ m', Moved w w' m m' (s.crash (pickN r0 s.n).toNat b0) := ⟨_, rfl⟩
  rw [show (fun e w' => e = Ending.returned (.bool true) ∧ ∃ m', Moved w w' m m' (s.crash (pickN r0 s.n).toNat b0)) = fun e w' => e = Ending.returned (.bool true) ∧ F w' by rw [hF]]
  have HF := hid hF
  have HPR := hid (fun wx => pick_any r0 s.n wx hr1 hr2 (by omega) (by omega))
  obtain ⟨q1, q2⟩ := pickN_bd r0 s.n (by omega)
  obtain ⟨r, hrr⟩ : ∃ r : Nat, pickN r0 s.n = (r : Int) := ⟨(pickN r0 s.n).toNat, by omega⟩
  have hrt : (pickN r0 s.n).toNat = r := by omega
  rw [hrr] at HPR
  have hr : r < s.n := by omega
  have HRT := hid hrt
  obtain ⟨W0, hW0⟩ : ∃ W0, W0 = w.alloc (.cells #[.int .i64 10, .int .i64 r0, .int .i64 t0, .int .i64 a0, .int .i64 b0, .int .i64 c0, .string s0] 46) := ⟨_, rfl⟩
  have B0 : Blw w W0.drew := by rw [hW0]; exact ((Blw.rfl w).al _).dr
  have h1 := h.blw B0
  have O1 : OpAt W0.drew w.heap.size 10 r0 t0 a0 b0 c0 s0 := ⟨by rw [hW0]; exact hp_new w _⟩
  obtain ⟨f0, f1, f2, f3, f4, f5, f6⟩ := O1.cells
  have hno : ¬ m.own w.heap.size := fun e => Nat.lt_irrefl _ (h.lim _ e)
  have S1 := hid (show (W0.drew.cell? ⟨w.heap.size, 1, none⟩ = some (.int .i64 r0) ∧ W0.drew.cell? ⟨m.cb, 0, none⟩ = some (.int .i64 s.n)) from ⟨f1, by rw [h1.cell]; rfl⟩)
  have H1 := hid (And.intro h1 (And.intro B0 O1))
  have HW0 := hid hW0
  have HI := hid hI
  clear hF hrr hrt q1 q2 hW0 B0 h1 O1 h
  unfold opArr
  have HCR := hid (crash_cl hI hr H1.out.1 hll b0 hb1 hb2)
  go_enter Tryz.func25, Tryz.ntmps25
  go_wp2
  rw [← HW0.out]
  go_region_held3 (fun w' => w'.cell? ⟨w.heap.size, 1, none⟩ = some (.int .i64 r0) ∧ w'.cell? ⟨m.cb, 0, none⟩ = some (.int .i64 s.n)) (first | exact S1.out)
    (first | (go_at_call 21; refine (HPR.out _).mono ?_; rintro e w1 ⟨rfl, hw⟩; subst hw))
  go_wp2_with fail
  refine HCR.out.mono ?_
  rintro e w2 ⟨rfl, m', M⟩
  have FIN : Hid (F w2) := by
    show F _
    rw [HF.out, HRT.out]
    exact ⟨m', (Moved.mk H1.out.1 (H1.out.2.1.kp _) (fun k hk => Or.inl hk) rfl (fun k hk => hk) : Moved w W0.drew m m s).tr M⟩
  clear M
  go_wp2
  go_ret
  exact ⟨rfl, FIN.out⟩

end Go.Proofs.YtalaldfgjgpacaaGreatDoor
