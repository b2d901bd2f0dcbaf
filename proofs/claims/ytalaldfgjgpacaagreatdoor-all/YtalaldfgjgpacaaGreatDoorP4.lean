import Derived.Test.YtalaldfgjgpacaaGreatDoorP1
import Derived.Deep.RegionHeld3
namespace Go.Proofs.YtalaldfgjgpacaaGreatDoor
set_option linter.unusedVariables false
set_option linter.unusedSimpArgs false
open Go.RowKit
attribute [local go_sem ↓] Go.wp_at_zero Go.wp_at_succ

set_option maxRecDepth 100000 in
set_option maxHeartbeats 4000000 in
theorem client4 (base B : Nat) (d : PD) (r t a bb c : Int) (s : ByteArray) (w : World) (h : PairAt base B w d) (hbs : base ≤ w.heap.size) (hB : B ≤ 100000000) (hs : s.size ≤ maxLen) (ht : Tab Tryz.prog w) :
    Calls Tryz.prog 22 #[.pointer (some ⟨d.pb, 0, none⟩), .agg (opArr 4 r t a bb c s)] w fun e w' => e = .returned (.bool true) ∧ PStep base (B + 1) d w w' := by
  have hsm : d.x.small := ⟨by have := h.had; omega, by have := h.log; omega⟩
  obtain ⟨tk, er, p', x', K⟩ := set_both d.b d.cb d.me d.n d.p d.x d.lt s a bb c h.n h.me hs h.fine h.hole hsm
  have H := hid h
  have KK := hid K
  have TB := hid ht
  have BX : Hid (Blw w (w.alloc (.cells (opArr 4 r t a bb c s) 46))) := (Blw.rfl _).al _
  have HW := hid (hp_new w (.cells (opArr 4 r t a bb c s) 46))
  have S0 := hid (Sees.of (BX.out.bk' h.pb) HW.out)
  have tkl := K.tkl
  clear h K ht hs hsm
  unfold opArr at *
  go_enter Tryz.func22, Tryz.ntmps22
  go_wp2_with fail
  go_cut [9, 10] (fun s1 s2 w' => s1 = .string ⟨tk.toArray⟩ ∧ s2 = .int .i64 er ∧ w'.heap[w.heap.size]? = some (.cells #[.int .i64 4, .int .i64 r, .int .i64 t, .int .i64 a, .int .i64 bb, .int .i64 c, .string s] 46) ∧ w'.heap[d.pb]? = some (.cells #[.pointer (some ⟨d.b, 0, none⟩), .pointer (some ⟨d.cb, 0, none⟩)] 52) ∧ ∃ w1, Blw w w1 ∧ RepTo d.b d.me d.n p' x' w1 w')
  case first =>
    go_region_held3 (fun w' => w'.cell? ⟨d.pb, 0, none⟩ = some (.pointer (some ⟨d.b, 0, none⟩)) ∧ w'.cell? ⟨d.pb, 1, none⟩ = some (.pointer (some ⟨d.cb, 0, none⟩)) ∧ w'.cell? ⟨w.heap.size, 3, none⟩ = some (.int .i64 a) ∧ w'.cell? ⟨w.heap.size, 4, none⟩ = some (.int .i64 bb) ∧ w'.cell? ⟨w.heap.size, 5, none⟩ = some (.int .i64 c) ∧ w'.cell? ⟨w.heap.size, 6, none⟩ = some (.string s)) (first | exact S1.out | exact S0.out)
      (first | (go_at_call 43; refine (KK.out.prog _ ((BX.out.dr).bk' H.out.b) (TB.out.blw BX.out.dr)).mono ?_; rintro e w2 ⟨rfl, r2⟩; have Z2 := hid (seen_rep H.out (show (w.alloc _).drew.heap[w.heap.size]? = _ from HW.out) BX.out.dr r2); have S1 := hid (Sees.of Z2.out.1 Z2.out.2); have R2 := hid r2; clear r2))
    all_goals
      go_wp2_with fail
      go_meet
      case rel => exact ⟨rfl, rfl, Z2.out.2, Z2.out.1, _, BX.out.dr, R2.out⟩
  case rest =>
    obtain ⟨rfl, rfl, g1, g2, w1, g3, g4⟩ := hcut
    have G4 := hid g4
    have G3 := hid g3
    have S2 := hid (Sees.of g2 g1)
    have HR := hid (ref_on_rep H.out g3 g4)
    have Z1 := hid (And.intro g2 g1)
    clear g1 g2 g3 g4
    go_wp2_with fail
    go_cut [11, 12] (fun s1 s2 w' => s1 = .string ⟨tk.toArray⟩ ∧ s2 = .int .i64 er ∧ ∃ w2, Blw wc w2 ∧ RefStep d.cb d.me d.n p' x' d.lt w2 w')
    case first =>
      go_region_held3 (fun w' => w'.cell? ⟨d.pb, 0, none⟩ = some (.pointer (some ⟨d.b, 0, none⟩)) ∧ w'.cell? ⟨d.pb, 1, none⟩ = some (.pointer (some ⟨d.cb, 0, none⟩)) ∧ w'.cell? ⟨w.heap.size, 3, none⟩ = some (.int .i64 a) ∧ w'.cell? ⟨w.heap.size, 4, none⟩ = some (.int .i64 bb) ∧ w'.cell? ⟨w.heap.size, 5, none⟩ = some (.int .i64 c) ∧ w'.cell? ⟨w.heap.size, 6, none⟩ = some (.string s)) (first | exact S3.out | exact S2.out)
        (first | (go_at_call 44; refine (KK.out.ref _ (HR.out.on (Blw.dr (Blw.rfl _)))).mono ?_; rintro e w4 ⟨rfl, r4⟩; have S3 := hid (Sees.ref H.out Z1.out.1 Z1.out.2 (Blw.dr (Blw.rfl _)) r4); have R4 := hid r4; clear r4))
      all_goals
        go_wp2_with fail
        go_meet
        case rel => exact ⟨rfl, rfl, _, Blw.dr (Blw.rfl _), R4.out⟩
    case rest =>
      obtain ⟨rfl, rfl, w2, g5, g6⟩ := hcut
      have FN := hid (pstep_of H.out hbs KK.out G3.out G4.out (g6.pre g5))
      have htt : (tk == tk) = true := by simp
      have hee : (er == er) = true := by simp
      clear g5 g6
      go_wp2_with fail
      refine (num_any er _).mono ?_
      rintro e w5 ⟨rfl, hw5⟩
      subst w5
      go_wp2
      go_ret
      exact ⟨rfl, FN.out⟩
end Go.Proofs.YtalaldfgjgpacaaGreatDoor
