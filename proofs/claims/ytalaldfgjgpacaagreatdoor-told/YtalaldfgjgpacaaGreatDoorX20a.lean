import Derived.Test.YtalaldfgjgpacaaGreatDoorHAB
import Derived.Test.YtalaldfgjgpacaaGreatDoorHAU
import Derived.Test.YtalaldfgjgpacaaGreatDoorX14
import Derived.Test.YtalaldfgjgpacaaGreatDoorX8
import Derived.Deep.RegionHeld3
import Derived.BigRegion
namespace Go.Proofs.YtalaldfgjgpacaaGreatDoor
set_option linter.unusedVariables false
set_option linter.unusedSimpArgs false
open Go.RowKit
attribute [local go_sem ↓] Go.wp_at_zero Go.wp_at_succ

/-- Where a letter goes. -/
def nthTo (e : Mail) (n : Nat) (r0 : Int) : Nat := if r0 < 0 then e.dst else (pickN r0 n).toNat

set_option maxRecDepth 100000 in
set_option maxHeartbeats 8000000 in
theorem step_take1 {w : World} {m : CM} {s : CS} (hI : Inv s) (h : ClAt w m s) (hm : s.mode = 0 ∨ s.mode = 1 ∨ s.mode = 2) (hll : s.lg.length ≤ 100000) (hwl : s.wire.length ≤ 10000000) (hal : s.acks.length ≤ 10000000) {r0 t0 a0 b0 c0 : Int} {s0 : ByteArray} (hr1 : -9223372036854775808 ≤ r0) (hr2 : r0 ≤ 9223372036854775807) (ht1 : -9223372036854775808 ≤ t0) (ht2 : t0 ≤ 9223372036854775807) (ha1 : -9223372036854775808 ≤ a0) (ha2 : a0 ≤ 9223372036854775807) (hb1 : -9223372036854775808 ≤ b0) (hb2 : b0 ≤ 9223372036854775807) (hc1 : -9223372036854775808 ≤ c0) (hc2 : c0 ≤ 9223372036854775807) (hw : s.wire ≠ []) :
    Calls Tryz.prog 25 #[.pointer (some ⟨m.cb, 0, none⟩), .agg (opArr 11 r0 t0 a0 b0 c0 s0)] w fun e w' => e = .returned (.bool true) ∧ ∃ m', Moved w w' m m' ((s.ahead (nthTo (nthM s.wire a0) s.n r0)).take (nthTo (nthM s.wire a0) s.n r0) (nthM s.wire a0)) := by
  have hn3 := h.n3
  have hn1 := h.n1
  obtain ⟨F, hF⟩ : ∃ F : World → Prop, F = fun w' => ∃ m', Moved w w' m m' ((s.ahead (nthTo (nthM s.wire a0) s.n r0)).take (nthTo (nthM s.wire a0) s.n r0) (nthM s.wire a0)) := ⟨_, rfl⟩
  rw [show (fun e w' => e = Ending.returned (.bool true) ∧ ∃ m', Moved w w' m m' ((s.ahead (nthTo (nthM s.wire a0) s.n r0)).take (nthTo (nthM s.wire a0) s.n r0) (nthM s.wire a0))) = fun e w' => e = Ending.returned (.bool true) ∧ F w' by rw [hF]]
  have HF := hid hF
  have HPR := hid (fun wx => pick_any r0 s.n wx hr1 hr2 (by omega) (by omega))
  obtain ⟨q1, q2⟩ := pickN_bd r0 s.n (by omega)
  obtain ⟨r, hrr⟩ : ∃ r : Nat, pickN r0 s.n = (r : Int) := ⟨(pickN r0 s.n).toNat, by omega⟩
  have hrt : (pickN r0 s.n).toNat = r := by omega
  rw [hrr] at HPR
  have hr : r < s.n := by omega
  have HRT := hid hrt
  obtain ⟨W0, hW0⟩ : ∃ W0, W0 = w.alloc (.cells #[.int .i64 11, .int .i64 r0, .int .i64 t0, .int .i64 a0, .int .i64 b0, .int .i64 c0, .string s0] 46) := ⟨_, rfl⟩
  have B0 : Blw w W0.drew := by rw [hW0]; exact ((Blw.rfl w).al _).dr
  have h1 := h.blw B0
  have O1 : OpAt W0.drew w.heap.size 11 r0 t0 a0 b0 c0 s0 := ⟨by rw [hW0]; exact hp_new w _⟩
  obtain ⟨f0, f1, f2, f3, f4, f5, f6⟩ := O1.cells
  have hno : ¬ m.own w.heap.size := fun e => Nat.lt_irrefl _ (h.lim _ e)
  have S1 := hid (show (W0.drew.cell? ⟨w.heap.size, 1, none⟩ = some (.int .i64 r0) ∧ W0.drew.cell? ⟨m.cb, 0, none⟩ = some (.int .i64 s.n)) from ⟨f1, by rw [h1.cell]; rfl⟩)
  have H1 := hid (And.intro h1 (And.intro B0 O1))
  have HW0 := hid hW0
  have HI := hid hI
  clear hF hrr hrt q1 q2 hW0 B0 h1 O1 h
  unfold opArr
  obtain ⟨E, V, hCo⟩ := hI.core
  have HAH := hid (ahead_cl H1.out.1 hr (hCo.rep r hr).ok.fine.ok)
  have hlen : 0 < s.wire.length := List.length_pos_iff.2 hw
  have hil := nthAt_lt hlen a0
  obtain ⟨le, hle⟩ : ∃ le, le = nthM s.wire a0 := ⟨_, rfl⟩
  have hget : s.wire[nthAt s.wire.length a0]? = some le := by
    rw [hle]; unfold nthM
    rw [List.getD_eq_getElem?_getD, List.getElem?_eq_getElem hil]; rfl
  have hmem : le ∈ s.wire := List.mem_of_getElem? hget
  have hfd : le.frm < s.n ∧ le.dst < s.n := ⟨(hCo.wire le hmem).f, (hCo.wire le hmem).t⟩
  obtain ⟨q, hq⟩ : ∃ q, q = nthTo le s.n r0 := ⟨_, rfl⟩
  have hqn : q < s.n := by
    rw [hq]; unfold nthTo
    split
    · exact hfd.2
    · have := pickN_bd r0 s.n (by omega); omega
  have hqi : (if r0 < 0 then (le.dst : Int) else pickN r0 s.n) = (q : Int) := by
    rw [hq]; unfold nthTo
    split
    · rfl
    · have := pickN_bd r0 s.n (by omega); omega
  have hpq := (hCo.rep q hqn).ok.fine.ok
  have HLE := hid (And.intro hle hq)
  clear hCo hfd hle hq
  go_enter Tryz.func25, Tryz.ntmps25
  go_wp2
  rw [← HW0.out]
  go_region_held3 (fun w' => w'.cell? ⟨w.heap.size, 1, none⟩ = some (.int .i64 r0) ∧ w'.cell? ⟨m.cb, 0, none⟩ = some (.int .i64 s.n)) (first | exact S1.out)
    (first | (go_at_call 21; refine (HPR.out _).mono ?_; rintro e w1 ⟨rfl, hw⟩; subst hw))
  go_wp2_with fail
  refine HAH.out.mono ?_
  rintro e w2 ⟨rfl, m2, M2⟩
  have e2 := M2.cb
  have O2 : OpAt w2 w.heap.size 11 r0 t0 a0 b0 c0 s0 := ⟨M2.kp.keep H1.out.2.2.blk hno⟩
  obtain ⟨g0, g1, g2, g3, g4, g5, g6⟩ := O2.cells
  have M02 := (Moved.mk H1.out.1 (H1.out.2.1.kp _) (fun k hk => Or.inl hk) rfl (fun k hk => hk) : Moved w W0.drew m m s).tr M2
  obtain ⟨u, hfu, hfz⟩ : ∃ u, m2.wf (nthAt s.wire.length a0) = mailC le u ∧ FrzV m2.own w2 s.n u le.knows := M2.cl.wi.i _ _ hget
  obtain ⟨uo, ul, uc, hu⟩ : ∃ uo ul uc, u = .slice uo ul uc := by obtain ⟨g, hg, _⟩ := hfz; exact ⟨_, _, _, hg⟩
  subst hu
  obtain ⟨g, cap, hv, _, _⟩ := World.ownsRow.form M2.cl.wi.o hlen
  have hv' : m2.wv = .slice (some ⟨g, 0, none⟩) s.wire.length cap := hv
  have hl4 : ∀ i, i < s.wire.length → (m2.wf i).length = 4 := by
    intro i hi
    obtain ⟨u, a, _⟩ := M2.cl.wi.i i _ (List.getElem?_eq_getElem hi)
    rw [a]; rfl
  have hcell : ∀ wx, Blw w2 wx → ∀ jj, jj < 4 → wx.cell? ⟨g, nthAt s.wire.length a0 * 4 + jj, none⟩ = (mailC le (.slice uo ul uc))[jj]? := by
    intro wx hb jj hj
    have ho := (M2.cl.blw hb).wi.o
    rw [hv'] at ho
    rw [ownsRow_cell ho _ (by show _ < s.wire.length * 4; have : (nthAt s.wire.length a0 + 1) * 4 ≤ s.wire.length * 4 := Nat.mul_le_mul_right _ hil; omega)]
    exact mail_cells hil hfu hl4 jj hj
  have HN : Hid (∀ wx, Blw w2 wx → Calls Tryz.prog 65 #[.pointer (some ⟨m.cb, 0, none⟩), .slice (some ⟨g, 0, none⟩) s.wire.length cap, .int .i64 a0, .int .i64 r0] wx fun z w' => z = .returned (.tuple #[.agg (mailA le.text le.frm le.dst (.slice uo ul uc)), .int .i64 q]) ∧ Blw wx w') := by
    intro wx hb
    have this := nth_go (M2.cl.blw hb) g cap s.wire.length a0 r0 le.text le.frm le.dst uo ul uc (nthAt s.wire.length a0) hil hwl ha1 ha2 hr1 hr2 rfl (by have := hcell wx hb 0 (by omega); rw [Nat.add_zero] at this; exact this) (hcell wx hb 1 (by omega)) (hcell wx hb 2 (by omega)) (hcell wx hb 3 (by omega))
    rw [e2, show (if r0 < 0 then (le.dst : Int) else pickN r0 ((s.ahead r).n : Int)) = (q : Int) from hqi] at this
    exact this
  have hS : ∀ wx, Blw w2 wx → (wx.cell? ⟨m.cb, 5, none⟩ = some (.slice (some ⟨g, 0, none⟩) s.wire.length cap) ∧ wx.cell? ⟨w.heap.size, 3, none⟩ = some (.int .i64 a0) ∧ wx.cell? ⟨w.heap.size, 1, none⟩ = some (.int .i64 r0)) := by
    intro wx hb
    have oo := O2.on (hb.bk _ (lt_of_blk O2.blk))
    exact ⟨by rw [← e2, (M2.cl.blw hb).cell, ← hv']; rfl, oo.cells.2.2.2.1, oo.cells.2.1⟩
  have HS := hid hS
  have y5 := (hS w2 (Blw.rfl w2)).1
  have hlenI : (0 : Int) < (s.wire.length : Int) := by omega
  have M2h := hid (And.intro M02 (And.intro M2.cl (And.intro e2 M2.own)))
  obtain ⟨X, hX⟩ : ∃ X : ByteArray, X = ⟨le.text.toArray⟩ := ⟨_, rfl⟩
  have hmA : mailA le.text le.frm le.dst (.slice uo ul uc) = #[.string X, .int .i64 le.frm, .int .i64 le.dst, (.slice uo ul uc)] := by rw [hX]; rfl
  rw [hmA] at HN
  have HMA := hid hmA
  have B2 := hid (show Blw w2 w2.drew from (Blw.rfl w2).dr)
  have B2a := hid (show Blw w2 (w2.drew.alloc (.cells #[.string ⟨#[]⟩, .int .i64 0, .int .i64 0, .slice none 0 0] 104)) from ((Blw.rfl w2).dr).al _)
  have S2 := hid (hS _ B2.out)
  have S2a := hid (hS _ B2a.out)
  have PQ := hid (And.intro hpq hmem)
  have FZ := hid hfz
  clear M2 M02 O2 f0 f1 f2 f3 f4 f5 f6 g2 g4 g5 g6 e2 hcell hS hfu hv hv' hl4 hget hil hpq hmem hmA hX hfz hqi
  clear hI
  go_wp2
  go_cut [8, 9] (fun s8 s9 wx => s9 = .int .i64 q ∧ ∃ lb, s8 = .pointer (some ⟨lb, 0, none⟩) ∧ wx.heap[lb]? = some (.cells #[.string X, .int .i64 le.frm, .int .i64 le.dst, (.slice uo ul uc)] 104) ∧ Blw w2 wx ∧ w2.heap.size ≤ lb)
  case first =>
    have L2 : Hid ((fun w' => w'.cell? ⟨m.cb, 5, none⟩ = some (.slice (some ⟨g, 0, none⟩) s.wire.length cap) ∧ w'.cell? ⟨w.heap.size, 3, none⟩ = some (.int .i64 a0) ∧ w'.cell? ⟨w.heap.size, 1, none⟩ = some (.int .i64 r0)) w2.drew) := S2.out
    have L2a : Hid ((fun w' => w'.cell? ⟨m.cb, 5, none⟩ = some (.slice (some ⟨g, 0, none⟩) s.wire.length cap) ∧ w'.cell? ⟨w.heap.size, 3, none⟩ = some (.int .i64 a0) ∧ w'.cell? ⟨w.heap.size, 1, none⟩ = some (.int .i64 r0)) (w2.drew.alloc (.cells #[.string ⟨#[]⟩, .int .i64 0, .int .i64 0, .slice none 0 0] 104))) := S2a.out
    refine wp_region_noPanic ?_
    refine wp_region_L (S := (fun w' => w'.cell? ⟨m.cb, 5, none⟩ = some (.slice (some ⟨g, 0, none⟩) s.wire.length cap) ∧ w'.cell? ⟨w.heap.size, 3, none⟩ = some (.int .i64 a0) ∧ w'.cell? ⟨w.heap.size, 1, none⟩ = some (.int .i64 r0))) (L := 15) (by kernel_rfl) ?_
    clear y5
    refine anyL_take (i := 0) (v := ?v0) rfl (by kernel_rfl) (by kernel_rfl) (by kernel_rfl) (by kernel_rfl) (fun _ _ _ h => h) L2.out (Or.inl ⟨by rfl, ?hy0⟩) ?rest0
    case hy0 => (intro w hSw; (try dsimp only at hSw); go_simp; try with_reducible rfl)
    try simp only [Act.put, List.setIfInBounds_toArray, List.set_cons_zero, List.set_cons_succ]
    refine anyL_take (i := 1) (v := ?v1) rfl (by kernel_rfl) (by kernel_rfl) (by kernel_rfl) (by kernel_rfl) (fun _ _ _ h => h) L2.out (Or.inl ⟨by rfl, ?hy1⟩) ?rest1
    case hy1 => (intro w hSw; (try dsimp only at hSw); go_simp; try with_reducible rfl)
    try simp only [Act.put, List.setIfInBounds_toArray, List.set_cons_zero, List.set_cons_succ]
    refine anyL_take (i := 2) (v := ?v2) rfl (by kernel_rfl) (by kernel_rfl) (by kernel_rfl) (by kernel_rfl) (fun _ _ _ h => h) L2.out (Or.inl ⟨by rfl, ?hy2⟩) ?rest2
    case hy2 => (intro w hSw; (try dsimp only at hSw); go_simp; try with_reducible rfl)
    try simp only [Act.put, List.setIfInBounds_toArray, List.set_cons_zero, List.set_cons_succ]
    refine anyL_take (i := 3) (v := ?v3) rfl (by kernel_rfl) (by kernel_rfl) (by kernel_rfl) (by kernel_rfl) (fun _ _ _ h => h) L2.out (Or.inl ⟨by rfl, ?hy3⟩) ?rest3
    case hy3 => (intro w hSw; (try dsimp only at hSw); go_simp; try with_reducible rfl)
    try simp only [Act.put, List.setIfInBounds_toArray, List.set_cons_zero, List.set_cons_succ]
    refine anyL_take (i := 4) (v := ?v4) rfl (by kernel_rfl) (by kernel_rfl) (by kernel_rfl) (by kernel_rfl) (fun _ _ _ h => h) L2.out (Or.inl ⟨by rfl, ?hy4⟩) ?rest4
    case hy4 => (intro w hSw; (try dsimp only at hSw); go_simp; try with_reducible rfl)
    try simp only [Act.put, List.setIfInBounds_toArray, List.set_cons_zero, List.set_cons_succ]
    refine anyL_take (i := 5) (v := ?v5) rfl (by kernel_rfl) (by kernel_rfl) (by kernel_rfl) (by kernel_rfl) (fun _ _ _ h => h) L2.out (Or.inl ⟨by rfl, ?hy5⟩) ?rest5
    case hy5 => (intro w hSw; (try dsimp only at hSw); go_simp; try with_reducible rfl)
    try simp only [Act.put, List.setIfInBounds_toArray, List.set_cons_zero, List.set_cons_succ]
    refine anyL_take (i := 6) (v := ?v6) rfl (by kernel_rfl) (by kernel_rfl) (by kernel_rfl) (by kernel_rfl) (fun _ _ _ h => h) L2.out (Or.inl ⟨by rfl, ?hy6⟩) ?rest6
    case hy6 => (intro w hSw; (try dsimp only at hSw); go_simp; try with_reducible rfl)
    try simp only [Act.put, List.setIfInBounds_toArray, List.set_cons_zero, List.set_cons_succ]
    refine anyL_take (i := 7) (v := ?v7) rfl (by kernel_rfl) (by kernel_rfl) (by kernel_rfl) (by kernel_rfl) (fun _ _ _ h => h) L2.out (Or.inl ⟨by rfl, ?hy7⟩) ?rest7
    case hy7 => (intro w hSw; (try dsimp only at hSw); go_simp; try with_reducible rfl)
    try simp only [Act.put, List.setIfInBounds_toArray, List.set_cons_zero, List.set_cons_succ]
    refine anyL_take (i := 8) (v := ?v8) rfl (by kernel_rfl) (by kernel_rfl) (by kernel_rfl) (by kernel_rfl) (fun _ _ _ h => h) L2.out (Or.inl ⟨by rfl, ?hy8⟩) ?rest8
    case hy8 => (intro w hSw; (try dsimp only at hSw); go_simp; try with_reducible rfl)
    try simp only [Act.put, List.setIfInBounds_toArray, List.set_cons_zero, List.set_cons_succ]

    refine anyL_pair (i := 9) (j := 13) (by kernel_rfl) rfl rfl (fun K' hK' => ?_) (fun K' hK' => ?_)
    · go_simp
      go_at_call 65
      refine (HN.out _ B2.out).mono ?_
      rintro e w3 ⟨rfl, b3⟩
      have b23 := B2.out.tr b3
      have L3 : Hid ((fun w' => w'.cell? ⟨m.cb, 5, none⟩ = some (.slice (some ⟨g, 0, none⟩) s.wire.length cap) ∧ w'.cell? ⟨w.heap.size, 3, none⟩ = some (.int .i64 a0) ∧ w'.cell? ⟨w.heap.size, 1, none⟩ = some (.int .i64 r0)) w3) := HS.out _ b23
      have B3 := hid b23
      have L3a : Hid ((fun w' => w'.cell? ⟨m.cb, 5, none⟩ = some (.slice (some ⟨g, 0, none⟩) s.wire.length cap) ∧ w'.cell? ⟨w.heap.size, 3, none⟩ = some (.int .i64 a0) ∧ w'.cell? ⟨w.heap.size, 1, none⟩ = some (.int .i64 r0)) (w3.alloc (.cells #[.string ⟨#[]⟩, .int .i64 0, .int .i64 0, .slice none 0 0] 104))) := HS.out _ (b23.al _)
      have L4 : Hid ((fun w' => w'.cell? ⟨m.cb, 5, none⟩ = some (.slice (some ⟨g, 0, none⟩) s.wire.length cap) ∧ w'.cell? ⟨w.heap.size, 3, none⟩ = some (.int .i64 a0) ∧ w'.cell? ⟨w.heap.size, 1, none⟩ = some (.int .i64 r0)) (w3.alloc (.cells #[.string X, .int .i64 le.frm, .int .i64 le.dst, (.slice uo ul uc)] 104))) := HS.out _ (b23.al _)
      clear b3 b23
      go_wp2_with fail
      refine hK'.out _ _ (fun _ => L3.out) ?_
      clear hK' K'
      try simp only [Act.put, List.setIfInBounds_toArray, List.set_cons_zero, List.set_cons_succ]
      refine anyL_take (i := 10) (v := ?v10a) rfl (by kernel_rfl) (by kernel_rfl) (by kernel_rfl) (by kernel_rfl) (fun _ _ _ h => h) L3.out (Or.inl ⟨by rfl, ?hy10a⟩) ?rest10a
      case hy10a => (intro w hSw; (try dsimp only at hSw); go_simp; try with_reducible rfl)
      try simp only [Act.put, List.setIfInBounds_toArray, List.set_cons_zero, List.set_cons_succ]
      refine anyL_take (i := 11) (v := ?v11a) rfl (by kernel_rfl) (by kernel_rfl) (by kernel_rfl) (by kernel_rfl) (fun _ _ _ h => h) L3.out (Or.inl ⟨by rfl, ?hy11a⟩) ?rest11a
      case hy11a => (intro w hSw; (try dsimp only at hSw); go_simp; try with_reducible rfl)
      try simp only [Act.put, List.setIfInBounds_toArray, List.set_cons_zero, List.set_cons_succ]
      refine anyL_take (i := 12) (v := ?v12a) rfl (by kernel_rfl) (by kernel_rfl) (by kernel_rfl) (by kernel_rfl) (fun _ _ _ h => h) L3.out (Or.inl ⟨by rfl, ?hy12a⟩) ?rest12a
      case hy12a => (intro w hSw; (try dsimp only at hSw); go_simp; try with_reducible rfl)
      try simp only [Act.put, List.setIfInBounds_toArray, List.set_cons_zero, List.set_cons_succ]
      refine anyL_one (i := 13) (by kernel_rfl) rfl (fun K' hK' => ?_)
      go_simp
      refine hK'.out _ _ (fun _ => L3a.out) ?_
      clear hK' K'
      try simp only [Act.put, List.setIfInBounds_toArray, List.set_cons_zero, List.set_cons_succ]
      refine anyL_one (i := 14) (by kernel_rfl) rfl (fun K' hK' => ?_)
      go_simp
      refine hK'.out _ _ (fun _ => L4.out) ?_
      clear hK' K'
      try simp only [Act.put, List.setIfInBounds_toArray, List.set_cons_zero, List.set_cons_succ]
      refine anyL_one (i := 15) (by kernel_rfl) rfl (fun K' hK' => ?_)
      go_simp
      refine hK'.out _ _ (fun h => absurd rfl h) ?_
      clear hK' K'
      try simp only [Act.put, List.setIfInBounds_toArray, List.set_cons_zero, List.set_cons_succ]

      refine anyL_done (by kernel_rfl) ?_ _
      refine NoPanic.normal ?_
      try go_wp2_with fail
      go_meet
      case rel => exact ⟨rfl, w3.heap.size, rfl, hp_new w3 _, B3.out.al _, B3.out.sz⟩

    · go_simp
      refine hK'.out _ _ (fun _ => L2a.out) ?_
      clear hK' K'
      try simp only [Act.put, List.setIfInBounds_toArray, List.set_cons_zero, List.set_cons_succ]

      refine anyL_one (i := 9) (by kernel_rfl) rfl (fun K' hK' => ?_)

      go_simp
      go_at_call 65
      refine (HN.out _ B2a.out).mono ?_
      rintro e w3 ⟨rfl, b3⟩
      have b23 := B2a.out.tr b3
      have L3 : Hid ((fun w' => w'.cell? ⟨m.cb, 5, none⟩ = some (.slice (some ⟨g, 0, none⟩) s.wire.length cap) ∧ w'.cell? ⟨w.heap.size, 3, none⟩ = some (.int .i64 a0) ∧ w'.cell? ⟨w.heap.size, 1, none⟩ = some (.int .i64 r0)) w3) := HS.out _ b23
      have B3 := hid b23
      have z3 : w3.heap[w2.heap.size]? = some (.cells #[.string ⟨#[]⟩, .int .i64 0, .int .i64 0, .slice none 0 0] 104) := b3.bk' (hp_new w2.drew (.cells #[.string ⟨#[]⟩, .int .i64 0, .int .i64 0, .slice none 0 0] 104))
      have zz0 : w3.cell? ⟨w2.heap.size, 0, none⟩ = some (.string ⟨#[]⟩) := by rw [blk_cell z3]; rfl
      have zz1 : w3.cell? ⟨w2.heap.size, 1, none⟩ = some (.int .i64 0) := by rw [blk_cell z3]; rfl
      have zz2 : w3.cell? ⟨w2.heap.size, 2, none⟩ = some (.int .i64 0) := by rw [blk_cell z3]; rfl
      have zz3 : w3.cell? ⟨w2.heap.size, 3, none⟩ = some (.slice none 0 0) := by rw [blk_cell z3]; rfl
      have zf : ∀ o, w3.frozen? ⟨w2.heap.size, o, none⟩ = false := fun o => blk_frozen z3 o
      have Z3 := hid z3
      have l4 := HS.out _ (set4_blw b23 (A := w2.heap.size) (Nat.le_refl _) (.string X) (.int .i64 le.frm) (.int .i64 le.dst) (.slice uo ul uc))
      unfold set4 at l4
      have L4 := hid l4
      have zs := And.intro (set4_self z3 (.string X) (.int .i64 le.frm) (.int .i64 le.dst) (.slice uo ul uc)) (set4_blw b23 (A := w2.heap.size) (Nat.le_refl _) (.string X) (.int .i64 le.frm) (.int .i64 le.dst) (.slice uo ul uc))
      unfold set4 at zs
      have ZS := hid zs
      clear b3 b23 z3 l4 zs
      go_wp2_with fail
      refine hK'.out _ _ (fun _ => L3.out) ?_
      clear hK' K'
      try simp only [Act.put, List.setIfInBounds_toArray, List.set_cons_zero, List.set_cons_succ]
      refine anyL_take (i := 10) (v := ?v10b) rfl (by kernel_rfl) (by kernel_rfl) (by kernel_rfl) (by kernel_rfl) (fun _ _ _ h => h) L3.out (Or.inl ⟨by rfl, ?hy10b⟩) ?rest10b
      case hy10b => (intro w hSw; (try dsimp only at hSw); go_simp; try with_reducible rfl)
      try simp only [Act.put, List.setIfInBounds_toArray, List.set_cons_zero, List.set_cons_succ]
      refine anyL_take (i := 11) (v := ?v11b) rfl (by kernel_rfl) (by kernel_rfl) (by kernel_rfl) (by kernel_rfl) (fun _ _ _ h => h) L3.out (Or.inl ⟨by rfl, ?hy11b⟩) ?rest11b
      case hy11b => (intro w hSw; (try dsimp only at hSw); go_simp; try with_reducible rfl)
      try simp only [Act.put, List.setIfInBounds_toArray, List.set_cons_zero, List.set_cons_succ]
      refine anyL_take (i := 12) (v := ?v12b) rfl (by kernel_rfl) (by kernel_rfl) (by kernel_rfl) (by kernel_rfl) (fun _ _ _ h => h) L3.out (Or.inl ⟨by rfl, ?hy12b⟩) ?rest12b
      case hy12b => (intro w hSw; (try dsimp only at hSw); go_simp; try with_reducible rfl)
      try simp only [Act.put, List.setIfInBounds_toArray, List.set_cons_zero, List.set_cons_succ]
      refine anyL_one (i := 14) (by kernel_rfl) rfl (fun K' hK' => ?_)
      go_simp
      refine hK'.out _ _ (fun _ => L4.out) ?_
      clear hK' K'
      try simp only [Act.put, List.setIfInBounds_toArray, List.set_cons_zero, List.set_cons_succ]
      refine anyL_one (i := 15) (by kernel_rfl) rfl (fun K' hK' => ?_)
      go_simp
      refine hK'.out _ _ (fun h => absurd rfl h) ?_
      clear hK' K'
      try simp only [Act.put, List.setIfInBounds_toArray, List.set_cons_zero, List.set_cons_succ]

      refine anyL_done (by kernel_rfl) ?_ _
      refine NoPanic.normal ?_
      try go_wp2_with fail
      go_meet
      case rel => exact ⟨rfl, w2.heap.size, rfl, ZS.out.1, ZS.out.2, Nat.le_refl _⟩

  case rest =>
    obtain ⟨rfl, lb, rfl, hlb, hbc, hlb2⟩ := hcut
    have cc := M2h.out.2.1.blw hbc
    have HA2 := hid (ahead_cl cc hqn PQ.out.1)
    rw [M2h.out.2.2.1] at HA2
    have hlo : ¬ m2.own lb := fun e => by have := M2h.out.2.1.lim lb e; omega
    have LB := hid (And.intro hlb (And.intro hbc (And.intro hlo cc)))
    clear hlb hbc hlb2 hlo cc
    go_wp2_with fail
    refine HA2.out.mono ?_
    rintro e w4 ⟨rfl, m4, M4⟩
    have hl4 := M4.kp.keep LB.out.1 LB.out.2.2.1
    have k0 : w4.cell? ⟨lb, 0, none⟩ = some (.string X) := by rw [blk_cell hl4]; rfl
    have k1 : w4.cell? ⟨lb, 1, none⟩ = some (.int .i64 le.frm) := by rw [blk_cell hl4]; rfl
    have k2 : w4.cell? ⟨lb, 2, none⟩ = some (.int .i64 le.dst) := by rw [blk_cell hl4]; rfl
    have k3 : w4.cell? ⟨lb, 3, none⟩ = some (.slice uo ul uc) := by rw [blk_cell hl4]; rfl
    have HFZ4 : FrzV m4.own w4 s.n (.slice uo ul uc) le.knows := (FZ.out.on (LB.out.2.1.kp m2.own) (fun k hk => Or.inl hk)).on M4.kp M4.own
    have HTK := hid (take_cl HI.out hqn M4.cl PQ.out.2 HFZ4 hal)
    rw [M4.cb.trans M2h.out.2.2.1, HMA.out] at HTK
    have M4h := hid M4
    clear M4 hl4
    go_wp2_with fail
    refine HTK.out.mono ?_
    rintro e w5 ⟨rfl, m5, M5⟩
    have FIN : Hid (F w5) := by
      show F _
      rw [HF.out, ← HLE.out.1, ← HLE.out.2]
      exact ⟨m5, ((M2h.out.1.tr (Moved.mk LB.out.2.2.2 (LB.out.2.1.kp _) (fun k hk => Or.inl hk) rfl (fun k hk => hk))).tr M4h.out).tr M5⟩
    clear M5
    go_wp2
    go_ret
    exact ⟨rfl, FIN.out⟩


set_option maxRecDepth 100000 in
set_option maxHeartbeats 8000000 in
theorem step_acked1 {w : World} {m : CM} {s : CS} (hI : Inv s) (h : ClAt w m s) (hm : s.mode = 0 ∨ s.mode = 1 ∨ s.mode = 2) (hll : s.lg.length ≤ 100000) (hwl : s.wire.length ≤ 10000000) (hal : s.acks.length ≤ 10000000) {r0 t0 a0 b0 c0 : Int} {s0 : ByteArray} (hr1 : -9223372036854775808 ≤ r0) (hr2 : r0 ≤ 9223372036854775807) (ht1 : -9223372036854775808 ≤ t0) (ht2 : t0 ≤ 9223372036854775807) (ha1 : -9223372036854775808 ≤ a0) (ha2 : a0 ≤ 9223372036854775807) (hb1 : -9223372036854775808 ≤ b0) (hb2 : b0 ≤ 9223372036854775807) (hc1 : -9223372036854775808 ≤ c0) (hc2 : c0 ≤ 9223372036854775807) (hw : s.acks ≠ []) :
    Calls Tryz.prog 25 #[.pointer (some ⟨m.cb, 0, none⟩), .agg (opArr 13 r0 t0 a0 b0 c0 s0)] w fun e w' => e = .returned (.bool true) ∧ ∃ m', Moved w w' m m' ((s.ahead (nthTo (nthM s.acks a0) s.n r0)).acked (nthTo (nthM s.acks a0) s.n r0) (nthM s.acks a0)) := by
  have hn3 := h.n3
  have hn1 := h.n1
  obtain ⟨F, hF⟩ : ∃ F : World → Prop, F = fun w' => ∃ m', Moved w w' m m' ((s.ahead (nthTo (nthM s.acks a0) s.n r0)).acked (nthTo (nthM s.acks a0) s.n r0) (nthM s.acks a0)) := ⟨_, rfl⟩
  rw [show (fun e w' => e = Ending.returned (.bool true) ∧ ∃ m', Moved w w' m m' ((s.ahead (nthTo (nthM s.acks a0) s.n r0)).acked (nthTo (nthM s.acks a0) s.n r0) (nthM s.acks a0))) = fun e w' => e = Ending.returned (.bool true) ∧ F w' by rw [hF]]
  have HF := hid hF
  have HPR := hid (fun wx => pick_any r0 s.n wx hr1 hr2 (by omega) (by omega))
  obtain ⟨q1, q2⟩ := pickN_bd r0 s.n (by omega)
  obtain ⟨r, hrr⟩ : ∃ r : Nat, pickN r0 s.n = (r : Int) := ⟨(pickN r0 s.n).toNat, by omega⟩
  have hrt : (pickN r0 s.n).toNat = r := by omega
  rw [hrr] at HPR
  have hr : r < s.n := by omega
  have HRT := hid hrt
  obtain ⟨W0, hW0⟩ : ∃ W0, W0 = w.alloc (.cells #[.int .i64 13, .int .i64 r0, .int .i64 t0, .int .i64 a0, .int .i64 b0, .int .i64 c0, .string s0] 46) := ⟨_, rfl⟩
  have B0 : Blw w W0.drew := by rw [hW0]; exact ((Blw.rfl w).al _).dr
  have h1 := h.blw B0
  have O1 : OpAt W0.drew w.heap.size 13 r0 t0 a0 b0 c0 s0 := ⟨by rw [hW0]; exact hp_new w _⟩
  obtain ⟨f0, f1, f2, f3, f4, f5, f6⟩ := O1.cells
  have hno : ¬ m.own w.heap.size := fun e => Nat.lt_irrefl _ (h.lim _ e)
  have S1 := hid (show (W0.drew.cell? ⟨w.heap.size, 1, none⟩ = some (.int .i64 r0) ∧ W0.drew.cell? ⟨m.cb, 0, none⟩ = some (.int .i64 s.n)) from ⟨f1, by rw [h1.cell]; rfl⟩)
  have H1 := hid (And.intro h1 (And.intro B0 O1))
  have HW0 := hid hW0
  have HI := hid hI
  clear hF hrr hrt q1 q2 hW0 B0 h1 O1 h
  unfold opArr
  obtain ⟨E, V, hCo⟩ := hI.core
  have HAH := hid (ahead_cl H1.out.1 hr (hCo.rep r hr).ok.fine.ok)
  have hlen : 0 < s.acks.length := List.length_pos_iff.2 hw
  have hil := nthAt_lt hlen a0
  obtain ⟨le, hle⟩ : ∃ le, le = nthM s.acks a0 := ⟨_, rfl⟩
  have hget : s.acks[nthAt s.acks.length a0]? = some le := by
    rw [hle]; unfold nthM
    rw [List.getD_eq_getElem?_getD, List.getElem?_eq_getElem hil]; rfl
  have hmem : le ∈ s.acks := List.mem_of_getElem? hget
  have hfd : le.frm < s.n ∧ le.dst < s.n := ⟨(hCo.acks le hmem).f, (hCo.acks le hmem).t⟩
  obtain ⟨q, hq⟩ : ∃ q, q = nthTo le s.n r0 := ⟨_, rfl⟩
  have hqn : q < s.n := by
    rw [hq]; unfold nthTo
    split
    · exact hfd.2
    · have := pickN_bd r0 s.n (by omega); omega
  have hqi : (if r0 < 0 then (le.dst : Int) else pickN r0 s.n) = (q : Int) := by
    rw [hq]; unfold nthTo
    split
    · rfl
    · have := pickN_bd r0 s.n (by omega); omega
  have hpq := (hCo.rep q hqn).ok.fine.ok
  have HLE := hid (And.intro hle hq)
  clear hCo hfd hle hq
  go_enter Tryz.func25, Tryz.ntmps25
  go_wp2
  rw [← HW0.out]
  go_region_held3 (fun w' => w'.cell? ⟨w.heap.size, 1, none⟩ = some (.int .i64 r0) ∧ w'.cell? ⟨m.cb, 0, none⟩ = some (.int .i64 s.n)) (first | exact S1.out)
    (first | (go_at_call 21; refine (HPR.out _).mono ?_; rintro e w1 ⟨rfl, hw⟩; subst hw))
  go_wp2_with fail
  refine HAH.out.mono ?_
  rintro e w2 ⟨rfl, m2, M2⟩
  have e2 := M2.cb
  have O2 : OpAt w2 w.heap.size 13 r0 t0 a0 b0 c0 s0 := ⟨M2.kp.keep H1.out.2.2.blk hno⟩
  obtain ⟨g0, g1, g2, g3, g4, g5, g6⟩ := O2.cells
  have M02 := (Moved.mk H1.out.1 (H1.out.2.1.kp _) (fun k hk => Or.inl hk) rfl (fun k hk => hk) : Moved w W0.drew m m s).tr M2
  obtain ⟨u, hfu, hfz⟩ : ∃ u, m2.af (nthAt s.acks.length a0) = mailC le u ∧ u = .slice none 0 0 := ⟨_, M2.cl.ak.i _ _ hget, rfl⟩
  obtain ⟨uo, ul, uc, hu⟩ : ∃ uo ul uc, u = .slice uo ul uc := ⟨_, _, _, hfz⟩
  subst hu
  obtain ⟨g, cap, hv, _, _⟩ := World.ownsRow.form M2.cl.ak.o hlen
  have hv' : m2.av = .slice (some ⟨g, 0, none⟩) s.acks.length cap := hv
  have hl4 : ∀ i, i < s.acks.length → (m2.af i).length = 4 := by
    intro i hi
    have a := M2.cl.ak.i i _ (List.getElem?_eq_getElem hi)
    rw [a]; rfl
  have hcell : ∀ wx, Blw w2 wx → ∀ jj, jj < 4 → wx.cell? ⟨g, nthAt s.acks.length a0 * 4 + jj, none⟩ = (mailC le (.slice uo ul uc))[jj]? := by
    intro wx hb jj hj
    have ho := (M2.cl.blw hb).ak.o
    rw [hv'] at ho
    rw [ownsRow_cell ho _ (by show _ < s.acks.length * 4; have : (nthAt s.acks.length a0 + 1) * 4 ≤ s.acks.length * 4 := Nat.mul_le_mul_right _ hil; omega)]
    exact mail_cells hil hfu hl4 jj hj
  have HN : Hid (∀ wx, Blw w2 wx → Calls Tryz.prog 65 #[.pointer (some ⟨m.cb, 0, none⟩), .slice (some ⟨g, 0, none⟩) s.acks.length cap, .int .i64 a0, .int .i64 r0] wx fun z w' => z = .returned (.tuple #[.agg (mailA le.text le.frm le.dst (.slice uo ul uc)), .int .i64 q]) ∧ Blw wx w') := by
    intro wx hb
    have this := nth_go (M2.cl.blw hb) g cap s.acks.length a0 r0 le.text le.frm le.dst uo ul uc (nthAt s.acks.length a0) hil hal ha1 ha2 hr1 hr2 rfl (by have := hcell wx hb 0 (by omega); rw [Nat.add_zero] at this; exact this) (hcell wx hb 1 (by omega)) (hcell wx hb 2 (by omega)) (hcell wx hb 3 (by omega))
    rw [e2, show (if r0 < 0 then (le.dst : Int) else pickN r0 ((s.ahead r).n : Int)) = (q : Int) from hqi] at this
    exact this
  have hS : ∀ wx, Blw w2 wx → (wx.cell? ⟨m.cb, 6, none⟩ = some (.slice (some ⟨g, 0, none⟩) s.acks.length cap) ∧ wx.cell? ⟨w.heap.size, 3, none⟩ = some (.int .i64 a0) ∧ wx.cell? ⟨w.heap.size, 1, none⟩ = some (.int .i64 r0)) := by
    intro wx hb
    have oo := O2.on (hb.bk _ (lt_of_blk O2.blk))
    exact ⟨by rw [← e2, (M2.cl.blw hb).cell, ← hv']; rfl, oo.cells.2.2.2.1, oo.cells.2.1⟩
  have HS := hid hS
  have y5 := (hS w2 (Blw.rfl w2)).1
  have hlenI : (0 : Int) < (s.acks.length : Int) := by omega
  have M2h := hid (And.intro M02 (And.intro M2.cl (And.intro e2 M2.own)))
  obtain ⟨X, hX⟩ : ∃ X : ByteArray, X = ⟨le.text.toArray⟩ := ⟨_, rfl⟩
  have hmA : mailA le.text le.frm le.dst (.slice uo ul uc) = #[.string X, .int .i64 le.frm, .int .i64 le.dst, (.slice uo ul uc)] := by rw [hX]; rfl
  rw [hmA] at HN
  have HMA := hid hmA
  have B2 := hid (show Blw w2 w2.drew from (Blw.rfl w2).dr)
  have B2a := hid (show Blw w2 (w2.drew.alloc (.cells #[.string ⟨#[]⟩, .int .i64 0, .int .i64 0, .slice none 0 0] 104)) from ((Blw.rfl w2).dr).al _)
  have S2 := hid (hS _ B2.out)
  have S2a := hid (hS _ B2a.out)
  have PQ := hid (And.intro hpq hmem)
  have FZ := hid hfz
  clear M2 M02 O2 f0 f1 f2 f3 f4 f5 f6 g2 g4 g5 g6 e2 hcell hS hfu hv hv' hl4 hget hil hpq hmem hmA hX hfz hqi
  clear hI
  go_wp2
  go_cut [10, 11] (fun s8 s9 wx => s9 = .int .i64 q ∧ ∃ lb, s8 = .pointer (some ⟨lb, 0, none⟩) ∧ wx.heap[lb]? = some (.cells #[.string X, .int .i64 le.frm, .int .i64 le.dst, (.slice uo ul uc)] 104) ∧ Blw w2 wx ∧ w2.heap.size ≤ lb)
  case first =>
    have L2 : Hid ((fun w' => w'.cell? ⟨m.cb, 6, none⟩ = some (.slice (some ⟨g, 0, none⟩) s.acks.length cap) ∧ w'.cell? ⟨w.heap.size, 3, none⟩ = some (.int .i64 a0) ∧ w'.cell? ⟨w.heap.size, 1, none⟩ = some (.int .i64 r0)) w2.drew) := S2.out
    have L2a : Hid ((fun w' => w'.cell? ⟨m.cb, 6, none⟩ = some (.slice (some ⟨g, 0, none⟩) s.acks.length cap) ∧ w'.cell? ⟨w.heap.size, 3, none⟩ = some (.int .i64 a0) ∧ w'.cell? ⟨w.heap.size, 1, none⟩ = some (.int .i64 r0)) (w2.drew.alloc (.cells #[.string ⟨#[]⟩, .int .i64 0, .int .i64 0, .slice none 0 0] 104))) := S2a.out
    refine wp_region_noPanic ?_
    refine wp_region_L (S := (fun w' => w'.cell? ⟨m.cb, 6, none⟩ = some (.slice (some ⟨g, 0, none⟩) s.acks.length cap) ∧ w'.cell? ⟨w.heap.size, 3, none⟩ = some (.int .i64 a0) ∧ w'.cell? ⟨w.heap.size, 1, none⟩ = some (.int .i64 r0))) (L := 15) (by kernel_rfl) ?_
    clear y5
    refine anyL_take (i := 0) (v := ?v0) rfl (by kernel_rfl) (by kernel_rfl) (by kernel_rfl) (by kernel_rfl) (fun _ _ _ h => h) L2.out (Or.inl ⟨by rfl, ?hy0⟩) ?rest0
    case hy0 => (intro w hSw; (try dsimp only at hSw); go_simp; try with_reducible rfl)
    try simp only [Act.put, List.setIfInBounds_toArray, List.set_cons_zero, List.set_cons_succ]
    refine anyL_take (i := 1) (v := ?v1) rfl (by kernel_rfl) (by kernel_rfl) (by kernel_rfl) (by kernel_rfl) (fun _ _ _ h => h) L2.out (Or.inl ⟨by rfl, ?hy1⟩) ?rest1
    case hy1 => (intro w hSw; (try dsimp only at hSw); go_simp; try with_reducible rfl)
    try simp only [Act.put, List.setIfInBounds_toArray, List.set_cons_zero, List.set_cons_succ]
    refine anyL_take (i := 2) (v := ?v2) rfl (by kernel_rfl) (by kernel_rfl) (by kernel_rfl) (by kernel_rfl) (fun _ _ _ h => h) L2.out (Or.inl ⟨by rfl, ?hy2⟩) ?rest2
    case hy2 => (intro w hSw; (try dsimp only at hSw); go_simp; try with_reducible rfl)
    try simp only [Act.put, List.setIfInBounds_toArray, List.set_cons_zero, List.set_cons_succ]
    refine anyL_take (i := 3) (v := ?v3) rfl (by kernel_rfl) (by kernel_rfl) (by kernel_rfl) (by kernel_rfl) (fun _ _ _ h => h) L2.out (Or.inl ⟨by rfl, ?hy3⟩) ?rest3
    case hy3 => (intro w hSw; (try dsimp only at hSw); go_simp; try with_reducible rfl)
    try simp only [Act.put, List.setIfInBounds_toArray, List.set_cons_zero, List.set_cons_succ]
    refine anyL_take (i := 4) (v := ?v4) rfl (by kernel_rfl) (by kernel_rfl) (by kernel_rfl) (by kernel_rfl) (fun _ _ _ h => h) L2.out (Or.inl ⟨by rfl, ?hy4⟩) ?rest4
    case hy4 => (intro w hSw; (try dsimp only at hSw); go_simp; try with_reducible rfl)
    try simp only [Act.put, List.setIfInBounds_toArray, List.set_cons_zero, List.set_cons_succ]
    refine anyL_take (i := 5) (v := ?v5) rfl (by kernel_rfl) (by kernel_rfl) (by kernel_rfl) (by kernel_rfl) (fun _ _ _ h => h) L2.out (Or.inl ⟨by rfl, ?hy5⟩) ?rest5
    case hy5 => (intro w hSw; (try dsimp only at hSw); go_simp; try with_reducible rfl)
    try simp only [Act.put, List.setIfInBounds_toArray, List.set_cons_zero, List.set_cons_succ]
    refine anyL_take (i := 6) (v := ?v6) rfl (by kernel_rfl) (by kernel_rfl) (by kernel_rfl) (by kernel_rfl) (fun _ _ _ h => h) L2.out (Or.inl ⟨by rfl, ?hy6⟩) ?rest6
    case hy6 => (intro w hSw; (try dsimp only at hSw); go_simp; try with_reducible rfl)
    try simp only [Act.put, List.setIfInBounds_toArray, List.set_cons_zero, List.set_cons_succ]
    refine anyL_take (i := 7) (v := ?v7) rfl (by kernel_rfl) (by kernel_rfl) (by kernel_rfl) (by kernel_rfl) (fun _ _ _ h => h) L2.out (Or.inl ⟨by rfl, ?hy7⟩) ?rest7
    case hy7 => (intro w hSw; (try dsimp only at hSw); go_simp; try with_reducible rfl)
    try simp only [Act.put, List.setIfInBounds_toArray, List.set_cons_zero, List.set_cons_succ]
    refine anyL_take (i := 8) (v := ?v8) rfl (by kernel_rfl) (by kernel_rfl) (by kernel_rfl) (by kernel_rfl) (fun _ _ _ h => h) L2.out (Or.inl ⟨by rfl, ?hy8⟩) ?rest8
    case hy8 => (intro w hSw; (try dsimp only at hSw); go_simp; try with_reducible rfl)
    try simp only [Act.put, List.setIfInBounds_toArray, List.set_cons_zero, List.set_cons_succ]

    refine anyL_pair (i := 9) (j := 13) (by kernel_rfl) rfl rfl (fun K' hK' => ?_) (fun K' hK' => ?_)
    · go_simp
      go_at_call 65
      refine (HN.out _ B2.out).mono ?_
      rintro e w3 ⟨rfl, b3⟩
      have b23 := B2.out.tr b3
      have L3 : Hid ((fun w' => w'.cell? ⟨m.cb, 6, none⟩ = some (.slice (some ⟨g, 0, none⟩) s.acks.length cap) ∧ w'.cell? ⟨w.heap.size, 3, none⟩ = some (.int .i64 a0) ∧ w'.cell? ⟨w.heap.size, 1, none⟩ = some (.int .i64 r0)) w3) := HS.out _ b23
      have B3 := hid b23
      have L3a : Hid ((fun w' => w'.cell? ⟨m.cb, 6, none⟩ = some (.slice (some ⟨g, 0, none⟩) s.acks.length cap) ∧ w'.cell? ⟨w.heap.size, 3, none⟩ = some (.int .i64 a0) ∧ w'.cell? ⟨w.heap.size, 1, none⟩ = some (.int .i64 r0)) (w3.alloc (.cells #[.string ⟨#[]⟩, .int .i64 0, .int .i64 0, .slice none 0 0] 104))) := HS.out _ (b23.al _)
      have L4 : Hid ((fun w' => w'.cell? ⟨m.cb, 6, none⟩ = some (.slice (some ⟨g, 0, none⟩) s.acks.length cap) ∧ w'.cell? ⟨w.heap.size, 3, none⟩ = some (.int .i64 a0) ∧ w'.cell? ⟨w.heap.size, 1, none⟩ = some (.int .i64 r0)) (w3.alloc (.cells #[.string X, .int .i64 le.frm, .int .i64 le.dst, (.slice uo ul uc)] 104))) := HS.out _ (b23.al _)
      clear b3 b23
      go_wp2_with fail
      refine hK'.out _ _ (fun _ => L3.out) ?_
      clear hK' K'
      try simp only [Act.put, List.setIfInBounds_toArray, List.set_cons_zero, List.set_cons_succ]
      refine anyL_take (i := 10) (v := ?v10a) rfl (by kernel_rfl) (by kernel_rfl) (by kernel_rfl) (by kernel_rfl) (fun _ _ _ h => h) L3.out (Or.inl ⟨by rfl, ?hy10a⟩) ?rest10a
      case hy10a => (intro w hSw; (try dsimp only at hSw); go_simp; try with_reducible rfl)
      try simp only [Act.put, List.setIfInBounds_toArray, List.set_cons_zero, List.set_cons_succ]
      refine anyL_take (i := 11) (v := ?v11a) rfl (by kernel_rfl) (by kernel_rfl) (by kernel_rfl) (by kernel_rfl) (fun _ _ _ h => h) L3.out (Or.inl ⟨by rfl, ?hy11a⟩) ?rest11a
      case hy11a => (intro w hSw; (try dsimp only at hSw); go_simp; try with_reducible rfl)
      try simp only [Act.put, List.setIfInBounds_toArray, List.set_cons_zero, List.set_cons_succ]
      refine anyL_take (i := 12) (v := ?v12a) rfl (by kernel_rfl) (by kernel_rfl) (by kernel_rfl) (by kernel_rfl) (fun _ _ _ h => h) L3.out (Or.inl ⟨by rfl, ?hy12a⟩) ?rest12a
      case hy12a => (intro w hSw; (try dsimp only at hSw); go_simp; try with_reducible rfl)
      try simp only [Act.put, List.setIfInBounds_toArray, List.set_cons_zero, List.set_cons_succ]
      refine anyL_one (i := 13) (by kernel_rfl) rfl (fun K' hK' => ?_)
      go_simp
      refine hK'.out _ _ (fun _ => L3a.out) ?_
      clear hK' K'
      try simp only [Act.put, List.setIfInBounds_toArray, List.set_cons_zero, List.set_cons_succ]
      refine anyL_one (i := 14) (by kernel_rfl) rfl (fun K' hK' => ?_)
      go_simp
      refine hK'.out _ _ (fun _ => L4.out) ?_
      clear hK' K'
      try simp only [Act.put, List.setIfInBounds_toArray, List.set_cons_zero, List.set_cons_succ]
      refine anyL_one (i := 15) (by kernel_rfl) rfl (fun K' hK' => ?_)
      go_simp
      refine hK'.out _ _ (fun h => absurd rfl h) ?_
      clear hK' K'
      try simp only [Act.put, List.setIfInBounds_toArray, List.set_cons_zero, List.set_cons_succ]

      refine anyL_done (by kernel_rfl) ?_ _
      refine NoPanic.normal ?_
      try go_wp2_with fail
      go_meet
      case rel => exact ⟨rfl, w3.heap.size, rfl, hp_new w3 _, B3.out.al _, B3.out.sz⟩

    · go_simp
      refine hK'.out _ _ (fun _ => L2a.out) ?_
      clear hK' K'
      try simp only [Act.put, List.setIfInBounds_toArray, List.set_cons_zero, List.set_cons_succ]

      refine anyL_one (i := 9) (by kernel_rfl) rfl (fun K' hK' => ?_)

      go_simp
      go_at_call 65
      refine (HN.out _ B2a.out).mono ?_
      rintro e w3 ⟨rfl, b3⟩
      have b23 := B2a.out.tr b3
      have L3 : Hid ((fun w' => w'.cell? ⟨m.cb, 6, none⟩ = some (.slice (some ⟨g, 0, none⟩) s.acks.length cap) ∧ w'.cell? ⟨w.heap.size, 3, none⟩ = some (.int .i64 a0) ∧ w'.cell? ⟨w.heap.size, 1, none⟩ = some (.int .i64 r0)) w3) := HS.out _ b23
      have B3 := hid b23
      have z3 : w3.heap[w2.heap.size]? = some (.cells #[.string ⟨#[]⟩, .int .i64 0, .int .i64 0, .slice none 0 0] 104) := b3.bk' (hp_new w2.drew (.cells #[.string ⟨#[]⟩, .int .i64 0, .int .i64 0, .slice none 0 0] 104))
      have zz0 : w3.cell? ⟨w2.heap.size, 0, none⟩ = some (.string ⟨#[]⟩) := by rw [blk_cell z3]; rfl
      have zz1 : w3.cell? ⟨w2.heap.size, 1, none⟩ = some (.int .i64 0) := by rw [blk_cell z3]; rfl
      have zz2 : w3.cell? ⟨w2.heap.size, 2, none⟩ = some (.int .i64 0) := by rw [blk_cell z3]; rfl
      have zz3 : w3.cell? ⟨w2.heap.size, 3, none⟩ = some (.slice none 0 0) := by rw [blk_cell z3]; rfl
      have zf : ∀ o, w3.frozen? ⟨w2.heap.size, o, none⟩ = false := fun o => blk_frozen z3 o
      have Z3 := hid z3
      have l4 := HS.out _ (set4_blw b23 (A := w2.heap.size) (Nat.le_refl _) (.string X) (.int .i64 le.frm) (.int .i64 le.dst) (.slice uo ul uc))
      unfold set4 at l4
      have L4 := hid l4
      have zs := And.intro (set4_self z3 (.string X) (.int .i64 le.frm) (.int .i64 le.dst) (.slice uo ul uc)) (set4_blw b23 (A := w2.heap.size) (Nat.le_refl _) (.string X) (.int .i64 le.frm) (.int .i64 le.dst) (.slice uo ul uc))
      unfold set4 at zs
      have ZS := hid zs
      clear b3 b23 z3 l4 zs
      go_wp2_with fail
      refine hK'.out _ _ (fun _ => L3.out) ?_
      clear hK' K'
      try simp only [Act.put, List.setIfInBounds_toArray, List.set_cons_zero, List.set_cons_succ]
      refine anyL_take (i := 10) (v := ?v10b) rfl (by kernel_rfl) (by kernel_rfl) (by kernel_rfl) (by kernel_rfl) (fun _ _ _ h => h) L3.out (Or.inl ⟨by rfl, ?hy10b⟩) ?rest10b
      case hy10b => (intro w hSw; (try dsimp only at hSw); go_simp; try with_reducible rfl)
      try simp only [Act.put, List.setIfInBounds_toArray, List.set_cons_zero, List.set_cons_succ]
      refine anyL_take (i := 11) (v := ?v11b) rfl (by kernel_rfl) (by kernel_rfl) (by kernel_rfl) (by kernel_rfl) (fun _ _ _ h => h) L3.out (Or.inl ⟨by rfl, ?hy11b⟩) ?rest11b
      case hy11b => (intro w hSw; (try dsimp only at hSw); go_simp; try with_reducible rfl)
      try simp only [Act.put, List.setIfInBounds_toArray, List.set_cons_zero, List.set_cons_succ]
      refine anyL_take (i := 12) (v := ?v12b) rfl (by kernel_rfl) (by kernel_rfl) (by kernel_rfl) (by kernel_rfl) (fun _ _ _ h => h) L3.out (Or.inl ⟨by rfl, ?hy12b⟩) ?rest12b
      case hy12b => (intro w hSw; (try dsimp only at hSw); go_simp; try with_reducible rfl)
      try simp only [Act.put, List.setIfInBounds_toArray, List.set_cons_zero, List.set_cons_succ]
      refine anyL_one (i := 14) (by kernel_rfl) rfl (fun K' hK' => ?_)
      go_simp
      refine hK'.out _ _ (fun _ => L4.out) ?_
      clear hK' K'
      try simp only [Act.put, List.setIfInBounds_toArray, List.set_cons_zero, List.set_cons_succ]
      refine anyL_one (i := 15) (by kernel_rfl) rfl (fun K' hK' => ?_)
      go_simp
      refine hK'.out _ _ (fun h => absurd rfl h) ?_
      clear hK' K'
      try simp only [Act.put, List.setIfInBounds_toArray, List.set_cons_zero, List.set_cons_succ]

      refine anyL_done (by kernel_rfl) ?_ _
      refine NoPanic.normal ?_
      try go_wp2_with fail
      go_meet
      case rel => exact ⟨rfl, w2.heap.size, rfl, ZS.out.1, ZS.out.2, Nat.le_refl _⟩

  case rest =>
    obtain ⟨rfl, lb, rfl, hlb, hbc, hlb2⟩ := hcut
    have cc := M2h.out.2.1.blw hbc
    have HA2 := hid (ahead_cl cc hqn PQ.out.1)
    rw [M2h.out.2.2.1] at HA2
    have hlo : ¬ m2.own lb := fun e => by have := M2h.out.2.1.lim lb e; omega
    have LB := hid (And.intro hlb (And.intro hbc (And.intro hlo cc)))
    clear hlb hbc hlb2 hlo cc
    go_wp2_with fail
    refine HA2.out.mono ?_
    rintro e w4 ⟨rfl, m4, M4⟩
    have hl4 := M4.kp.keep LB.out.1 LB.out.2.2.1
    have k0 : w4.cell? ⟨lb, 0, none⟩ = some (.string X) := by rw [blk_cell hl4]; rfl
    have k1 : w4.cell? ⟨lb, 1, none⟩ = some (.int .i64 le.frm) := by rw [blk_cell hl4]; rfl
    have k2 : w4.cell? ⟨lb, 2, none⟩ = some (.int .i64 le.dst) := by rw [blk_cell hl4]; rfl
    have k3 : w4.cell? ⟨lb, 3, none⟩ = some (.slice uo ul uc) := by rw [blk_cell hl4]; rfl
    have HTK := hid (acked_cl HI.out hqn M4.cl PQ.out.2 (.slice uo ul uc))
    rw [M4.cb.trans M2h.out.2.2.1, HMA.out] at HTK
    have M4h := hid M4
    clear M4 hl4
    go_wp2_with fail
    refine HTK.out.mono ?_
    rintro e w5 ⟨rfl, m5, M5⟩
    have FIN : Hid (F w5) := by
      show F _
      rw [HF.out, ← HLE.out.1, ← HLE.out.2]
      exact ⟨m5, ((M2h.out.1.tr (Moved.mk LB.out.2.2.2 (LB.out.2.1.kp _) (fun k hk => Or.inl hk) rfl (fun k hk => hk))).tr M4h.out).tr M5⟩
    clear M5
    go_wp2
    go_ret
    exact ⟨rfl, FIN.out⟩


end Go.Proofs.YtalaldfgjgpacaaGreatDoor
