import Derived.Test.YticfcjicndjejaaGreatDoorFA
import Derived.Deep.RegionWith
namespace Go.Proofs.YticfcjicndjejaaGreatDoor
set_option linter.unusedVariables false
set_option linter.unusedSimpArgs false
open Go.RowKit
attribute [local go_sem ↓] Go.wp_at_zero Go.wp_at_succ

/-- The dot ahead. -/
def aheadT (d : Bs) : Bs := [d.getD 0 0, UInt8.ofNat ((d.getD 1 0).toNat - 1)]
def holeF (D : List Bs) (d : Bs) : Bool := decide (49 < (d.getD 1 0).toNat) && !hasL D (aheadT d)

theorem conv2e (m n : Int) (w : World) : (convert 130 9 (.slice (some ⟨w.heap.size, 0, none⟩) 2 2)).run Tryz.prog (w.alloc (.cells #[.int .u8 m, .int .u8 n] 5)).drew = .ok (.string ⟨#[UInt8.ofNat m.toNat, UInt8.ofNat n.toNat]⟩) (w.alloc (.cells #[.int .u8 m, .int .u8 n] 5)).drew := by
  rw [run_convert_bytes_string _ 130 9 5 _ _ _ Tryz.underlying130 Tryz.underlying5 Tryz.underlying9]
  rw [run_bytesToString _ _ _ _ [m, n]]
  · rfl
  · have := run_loadCells_list (P := Tryz.prog) (w.alloc (.cells #[.int .u8 m, .int .u8 n] 5)).drew ⟨w.heap.size, 0, none⟩ [.int .u8 m, .int .u8 n] (fun j v hv => by
      match j, hv with
      | 0, hv => simp at hv; subst hv; simp [Addr.add]
      | 1, hv => simp at hv; subst hv; simp [Addr.add])
    simpa using this
theorem conv2d (m n : Int) (w : World) : (convert 130 9 (.slice (some ⟨w.heap.size, 0, none⟩) 2 2)).run Tryz.prog (w.drew.alloc (.cells #[.int .u8 m, .int .u8 n] 5)) = .ok (.string ⟨#[UInt8.ofNat m.toNat, UInt8.ofNat n.toNat]⟩) (w.drew.alloc (.cells #[.int .u8 m, .int .u8 n] 5)) := conv2 m n w.drew

set_option maxRecDepth 100000 in
set_option maxHeartbeats 2000000 in
theorem rhole_any (a b : Value) (D E : List Bs) (w : World) (hP : PcAt w a b D E) :
    Calls Tryz.prog 108 #[.agg #[a, b]] w fun e w' => e = .returned (.bool (D.any (holeF D))) ∧ Blw w w' := by
  obtain ⟨ao, ca, rfl, oa⟩ := hP.d.op
  obtain ⟨bo, cb, rfl, ob⟩ := hP.e.op
  have OA := hid oa
  have D2 := hid hP.d2
  have ld := hP.dl
  have HPd := hid hP.d
  obtain ⟨t, ht⟩ : ∃ t, t = D.any (holeF D) := ⟨_, rfl⟩
  rw [← ht]
  have HT := hid ht
  have HH := hid (any_hit (holeF D) D)
  have HA := hid (any_take (holeF D) D)
  clear oa ob ht hP
  go_enter Tryz.func108, Tryz.ntmps108
  go_wp2
  go_loopw [3] (fun i wr => ∃ k : Nat, k ≤ D.length ∧ i = .int .i64 k ∧ (D.take k).any (holeF D) = false ∧ wr.heap[w.heap.size]? = some (.cells #[.slice ao D.length ca, .slice bo E.length cb] 119) ∧ Blw w wr) (fun i _ => D.length - (intOf i).toNat)
  case atStart => exact ⟨0, by omega, rfl, rfl, hp_new _ _, (Blw.rfl _).al _⟩
  case round =>
    obtain ⟨k, hk, rfl, hd, hbx, hbw⟩ := hrel
    have HD := hid hd
    have BW := hid hbw
    have BX := hid hbx
    have z0 : wr.cell? ⟨w.heap.size, 0, none⟩ = some (.slice ao D.length ca) := blk_cell hbx 0
    clear hd hbx hbw
    by_cases hlt : k < D.length
    · obtain ⟨g, rfl, hg, hc⟩ := OA.out (by omega)
      obtain ⟨c0, c1, hx, h48⟩ := D2.out _ (mem_getD D k hlt)
      have hck := (bcell BW.out).1 g k hg
      rw [hc k hlt, hx] at hck
      unfold strV at hck
      have HS := hid (HA.out k hlt)
      have HHk := hid (HH.out k hlt)
      rw [hx] at HS HHk
      obtain ⟨y, hy, hz, hz1, hy0, hy1⟩ : ∃ y : ByteArray, y = ⟨[c0, c1].toArray⟩ ∧ ∃ (hz : 0 < y.size) (hz1 : 1 < y.size), y[0]'hz = c0 ∧ y[1]'hz1 = c1 := ⟨_, rfl, (show 0 < 2 by decide), (show 1 < 2 by decide), rfl, rfl⟩
      have hy2 : y.size = 2 := by rw [hy]; rfl
      rw [← hy] at hck
      have HF : Hid (holeF D [c0, c1] = (decide (49 < c1.toNat) && !hasL D [c0, UInt8.ofNat (c1.toNat - 1)])) := rfl
      have e0 : ((y[0]'hz).toNat : Int) = (c0.toNat : Int) := by rw [hy0]
      have e1 : ((y[1]'hz1).toNat : Int) = (c1.toNat : Int) := by rw [hy1]
      have b0 := c0.toNat_lt
      have b1 := c1.toNat_lt
      clear hc hx hy hy0 hy1
      by_cases h49 : 49 < c1.toNat
      · have hcv := conv2 (c0.toNat : Int) (IntKind.u8.wrap ((c1.toNat : Int) - 1))
        have hcd := conv2d (c0.toNat : Int) (IntKind.u8.wrap ((c1.toNat : Int) - 1))
        have hce := conv2e (c0.toNat : Int) (IntKind.u8.wrap ((c1.toNat : Int) - 1))
        have f0 : UInt8.ofNat ((c0.toNat : Int)).toNat = c0 := by simp
        have hwp : IntKind.u8.wrap ((c1.toNat : Int) - 1) = (c1.toNat : Int) - 1 := by rw [IntKind.wrap_u8]; omega
        have f1 : UInt8.ofNat (IntKind.u8.wrap ((c1.toNat : Int) - 1)).toNat = UInt8.ofNat (c1.toNat - 1) := by rw [hwp, show ((c1.toNat : Int) - 1).toNat = c1.toNat - 1 by omega]
        rw [f0, f1] at hcv hcd hce
        clear hwp
        have HHs := hid (fun wx hx => has_any D [c0, UInt8.ofNat (c1.toNat - 1)] (.slice (some ⟨g, 0, none⟩) D.length ca) 0 wx hx (by omega))
        unfold strV at HHs
        obtain ⟨xb, hxb⟩ : ∃ xb : ByteArray, xb = ⟨[c0, UInt8.ofNat (c1.toNat - 1)].toArray⟩ := ⟨_, rfl⟩
        rw [← hxb] at HHs
        rw [show ByteArray.mk #[c0, UInt8.ofNat (c1.toNat - 1)] = xb from hxb.symm] at hcv hcd hce
        have hlw : wr.heap.size = wr.heap.size := rfl
        have hgw : w.heap.size < wr.heap.size := lt_of_blk BX.out
        clear f0 f1 hxb hlw
        generalize UInt8.ofNat (c1.toNat - 1) = cc at *
        go_wp2_with fail
        go_cut [5] (fun s w' => s = .bool (hasL D [c0, cc]) ∧ Blw wr w')
        case first =>
          go_region_with (first | (go_at_call 142; refine (HHs.out _ (HPd.out.on (BW.out.tr (by first | exact Blw.al (Blw.dr (Blw.rfl _)) _ | exact Blw.dr (Blw.al (Blw.rfl _) _))))).mono ?_; rintro e w3 ⟨rfl, rfl⟩))
          all_goals
            go_wp2_with fail
            go_meet
            case rel => exact ⟨rfl, by first | exact Blw.al (Blw.dr (Blw.rfl _)) _ | exact Blw.dr (Blw.al (Blw.rfl _) _)⟩
        case rest =>
          obtain ⟨rfl, hb3⟩ := hcut
          have B3 := hid hb3
          clear hb3
          cases hh : hasL D [c0, cc]
          · have HF1 : Hid (t = true) := by show t = true; rw [HT.out]; exact HHk.out (by rw [HF.out, hh]; simpa using h49)
            go_wp2
            go_ret
            exact ⟨by rw [HF1.out]; rfl, BW.out.tr B3.out⟩
          · have HF1 : Hid ((D.take (k + 1)).any (holeF D) = false) := by show _ = _; rw [HS.out, HD.out, HF.out, hh]; simp
            go_wp2
            go_roundw
            case rel => exact ⟨k + 1, by omega, by go_num, HF1.out, B3.out.bk' BX.out, BW.out.tr B3.out⟩
            case measure => simp [intOf]; omega
      · have HF1 : Hid ((D.take (k + 1)).any (holeF D) = false) := by show _ = _; rw [HS.out, HD.out, HF.out]; simp [h49]
        go_wp2
        go_roundw
        case rel => exact ⟨k + 1, by omega, by go_num, HF1.out, BX.out, BW.out⟩
        case measure => simp [intOf]; omega
    · have hkn : k = D.length := by omega
      have HF : Hid (t = false) := by show t = false; have := HD.out; rw [hkn, List.take_length] at this; rw [HT.out, this]
      subst hkn
      go_wp2
      go_ret
      exact ⟨by rw [HF.out]; rfl, BW.out⟩
end Go.Proofs.YticfcjicndjejaaGreatDoor
