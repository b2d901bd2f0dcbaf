import Derived.Test.YtalaldfgjgpacaaGreatDoorQF
import Derived.BigQuiet
import Derived.Deep.RegionWith
namespace Go.Proofs.YtalaldfgjgpacaaGreatDoor
set_option linter.unusedVariables false
set_option linter.unusedSimpArgs false
open Go.RowKit
attribute [local go_sem ↓] Go.wp_at_zero Go.wp_at_succ

theorem any_take (f : Bs → Bool) (L : List Bs) (k : Nat) (hk : k < L.length) : (L.take (k + 1)).any f = ((L.take k).any f || f (L.getD k [])) := by
  rw [list_app_idx L k [] hk, List.any_append]; simp
theorem any_hit (f : Bs → Bool) (L : List Bs) (k : Nat) (hk : k < L.length) (h : f (L.getD k []) = true) : L.any f = true :=
  List.any_eq_true.2 ⟨_, mem_getD L k hk, h⟩

/-- A box of a piece of the document's. -/
theorem box_cells (w : World) (a b : Value) : (w.alloc (.cells #[a, b] 120)).cell? ⟨w.heap.size, 0, none⟩ = some a ∧ (w.alloc (.cells #[a, b] 120)).cell? ⟨w.heap.size, 1, none⟩ = some b :=
  ⟨blk_cell (hp_new _ _) 0, blk_cell (hp_new _ _) 1⟩

def foreignF (n : Int) (d : Bs) : Bool := decide (n ≤ ((d.getD 0 0).toNat : Int) - 48)

set_option maxRecDepth 100000 in
set_option maxHeartbeats 1000000 in
theorem foreign_any (a b : Value) (D E : List Bs) (n : Int) (w : World) (hP : PcAt w a b D E) :
    Calls Tryz.prog 110 #[.agg #[a, b], .int .i64 n] w fun e w' => e = .returned (.bool (D.any (foreignF n))) ∧ Blw w w' := by
  obtain ⟨ao, ca, rfl, oa⟩ := hP.d.op
  obtain ⟨bo, cb, rfl, ob⟩ := hP.e.op
  have OA := hid oa
  have D2 := hid hP.d2
  have ld := hP.dl
  obtain ⟨t, ht⟩ : ∃ t, t = D.any (foreignF n) := ⟨_, rfl⟩
  rw [← ht]
  have HT := hid ht
  have HH := hid (any_hit (foreignF n) D)
  have HA := hid (any_take (foreignF n) D)
  have BX : Hid (Blw w (w.alloc (.cells #[.slice ao D.length ca, .slice bo E.length cb] 120))) := (Blw.rfl _).al _
  clear oa ob ht hP
  go_enter Tryz.func110, Tryz.ntmps110
  go_wp2
  go_loop [5] (fun i => ∃ k : Nat, k ≤ D.length ∧ i = .int .i64 k ∧ (D.take k).any (foreignF n) = false) (fun i => D.length - (intOf i).toNat)
  case atStart => exact ⟨0, by omega, rfl, rfl⟩
  case round =>
    obtain ⟨k, hk, rfl, hd⟩ := hrel
    have HD := hid hd
    clear hd
    by_cases hlt : k < D.length
    · obtain ⟨g, rfl, hg, hc⟩ := OA.out (by omega)
      obtain ⟨c0, c1, hx, h48⟩ := D2.out _ (mem_getD D k hlt)
      have hck := (bcell BX.out).1 g k hg
      rw [hc k hlt, hx] at hck
      unfold strV at hck
      have HS := hid (HA.out k hlt)
      have HHk := hid (HH.out k hlt)
      rw [hx] at HS HHk
      obtain ⟨y, hy, hyc⟩ : ∃ y : ByteArray, y = ⟨[c0, c1].toArray⟩ ∧ ∃ hz : 0 < y.size, y[0]'hz = c0 := ⟨_, rfl, (show 0 < 2 by decide), rfl⟩
      obtain ⟨hz, hyc⟩ := hyc
      have hy2 : y.size = 2 := by rw [hy]; rfl
      have h256 : c0.toNat < 256 := c0.toNat_lt
      rw [← hy] at hck
      have HF : Hid (foreignF n [c0, c1] = decide (n ≤ ((y[0]'hz).toNat : Int) - 48)) := by rw [hyc]; exact rfl
      rw [← hyc] at h48 h256
      have h48' : (48 : Int) ≤ ((y[0]'hz).toNat : Int) := by omega
      have h256' : ((y[0]'hz).toNat : Int) < 256 := by omega
      clear hc hx hy hyc h48 h256
      by_cases hr : n ≤ ((y[0]'hz).toNat : Int) - 48
      · have HF1 : Hid (t = true) := by show t = true; rw [HT.out]; exact HHk.out (by rw [HF.out]; simpa using hr)
        go_wp2
        go_ret
        exact ⟨by rw [HF1.out]; rfl, BX.out⟩
      · have HF1 : Hid ((D.take (k + 1)).any (foreignF n) = false) := by show _ = _; rw [HS.out, HD.out, HF.out]; simpa using hr
        go_wp2
        go_round
        case rel => exact ⟨k + 1, by omega, by go_num, HF1.out⟩
        case measure => simp [intOf]; omega
    · have hkn : k = D.length := by omega
      have HF : Hid (t = false) := by show t = false; have := HD.out; rw [hkn, List.take_length] at this; rw [HT.out, this]
      subst hkn
      go_wp2
      go_ret
      exact ⟨by rw [HF.out]; rfl, BX.out⟩

/-- Two boxes. -/
structure Two (w wr : World) (a b a' b' : Value) : Prop where
  a : wr.heap[w.heap.size]? = some (.cells #[a, b] 120)
  b : wr.heap[w.heap.size + 1]? = some (.cells #[a', b'] 120)
  bl : Blw w wr
theorem Two.start (w : World) (a b a' b' : Value) : Two w ((w.alloc (.cells #[a, b] 120)).alloc (.cells #[a', b'] 120)) a b a' b' :=
  ⟨hp_old _ (by simp) (hp_new w _), hp_new2 w _ _, ((Blw.rfl _).al _).al _⟩
theorem Two.on {w wr w' : World} {a b a' b' : Value} (h : Two w wr a b a' b') (hb : Blw wr w') : Two w w' a b a' b' := ⟨hb.bk' h.a, hb.bk' h.b, h.bl.tr hb⟩

def bringsF (D : List Bs) (d : Bs) : Bool := !hasL D d

set_option maxRecDepth 100000 in
set_option maxHeartbeats 1000000 in
theorem brings_any (a b a' b' : Value) (D E D' E' : List Bs) (w : World) (hP : PcAt w a b D E) (hP' : PcAt w a' b' D' E') :
    Calls Tryz.prog 114 #[.agg #[a, b], .agg #[a', b']] w fun e w' => e = .returned (.bool (D'.any (bringsF D))) ∧ Blw w w' := by
  obtain ⟨ao, ca, rfl, oa⟩ := hP.d.op
  obtain ⟨bo, cb, rfl, ob⟩ := hP.e.op
  obtain ⟨ao', ca', rfl, oa'⟩ := hP'.d.op
  obtain ⟨bo', cb', rfl, ob'⟩ := hP'.e.op
  have OA' := hid oa'
  have ld := hP.dl
  have ld' := hP'.dl
  have HPd := hid hP.d
  obtain ⟨t, ht⟩ : ∃ t, t = D'.any (bringsF D) := ⟨_, rfl⟩
  rw [← ht]
  have HT := hid ht
  have HH := hid (any_hit (bringsF D) D')
  have HA := hid (any_take (bringsF D) D')
  clear oa ob oa' ob' ht hP hP'
  go_enter Tryz.func114, Tryz.ntmps114
  go_wp2
  go_loopw [5] (fun i wr => ∃ k : Nat, k ≤ D'.length ∧ i = .int .i64 k ∧ (D'.take k).any (bringsF D) = false ∧ Two w wr (.slice ao D.length ca) (.slice bo E.length cb) (.slice ao' D'.length ca') (.slice bo' E'.length cb')) (fun i _ => D'.length - (intOf i).toNat)
  case atStart => exact ⟨0, by omega, rfl, rfl, Two.start _ _ _ _ _⟩
  case round =>
    obtain ⟨k, hk, rfl, hd, h2⟩ := hrel
    have HD := hid hd
    have TW := hid h2
    have BW := hid h2.bl
    have z0 : wr.cell? ⟨w.heap.size, 0, none⟩ = some (.slice ao D.length ca) := blk_cell h2.a 0
    have z1 : wr.cell? ⟨w.heap.size + 1, 0, none⟩ = some (.slice ao' D'.length ca') := blk_cell h2.b 0
    clear hd h2
    by_cases hlt : k < D'.length
    · obtain ⟨g, rfl, hg, hc⟩ := OA'.out (by omega)
      have hck := (bcell BW.out).1 g k hg
      rw [hc k hlt] at hck
      unfold strV at hck
      have HS := hid (HA.out k hlt)
      have HHk := hid (HH.out k hlt)
      clear hc
      generalize D'.getD k [] = x at *
      have HB : Hid (bringsF D x = !hasL D x) := rfl
      go_wp2_with fail
      go_quiet (first | (go_at_call 149; refine Calls.quiet_of_same (has_any D x _ 0 _ (HPd.out.on (BW.out.drn _)) (by omega))))
      cases hh : hasL D x
      · have HF1 : Hid (t = true) := by show t = true; rw [HT.out]; exact HHk.out (by rw [HB.out, hh]; rfl)
        go_wp2
        go_ret
        exact ⟨by rw [HF1.out]; rfl, BW.out.drn _⟩
      · have HF1 : Hid ((D'.take (k + 1)).any (bringsF D) = false) := by show _ = _; rw [HS.out, HD.out, HB.out, hh]; rfl
        go_wp2
        go_roundw
        case rel => exact ⟨k + 1, by omega, by go_num, HF1.out, TW.out.on ((Blw.rfl _).drn _)⟩
        case measure => simp [intOf]; omega
    · have hkn : k = D'.length := by omega
      have HF : Hid (t = false) := by show t = false; have := HD.out; rw [hkn, List.take_length] at this; rw [HT.out, this]
      subst hkn
      go_wp2
      go_ret
      exact ⟨by rw [HF.out]; rfl, BW.out⟩
end Go.Proofs.YtalaldfgjgpacaaGreatDoor

namespace Go.Proofs.YtalaldfgjgpacaaGreatDoor
set_option linter.unusedVariables false
set_option linter.unusedSimpArgs false
open Go.RowKit
attribute [local go_sem ↓] Go.wp_at_zero Go.wp_at_succ

def clashF (e f : Bs) : Bool := (dotOf e == dotOf f) && !(e == f)
def clashE (E : List Bs) (e : Bs) : Bool := E.any (clashF e)

set_option maxRecDepth 100000 in
set_option maxHeartbeats 2000000 in
theorem rclash_any (a b a' b' : Value) (D E D' E' : List Bs) (w : World) (hP : PcAt w a b D E) (hP' : PcAt w a' b' D' E') :
    Calls Tryz.prog 113 #[.agg #[a, b], .agg #[a', b']] w fun e w' => e = .returned (.bool (E'.any (clashE E))) ∧ Blw w w' := by
  obtain ⟨ao, ca, rfl, oa⟩ := hP.d.op
  obtain ⟨bo, cb, rfl, ob⟩ := hP.e.op
  obtain ⟨ao', ca', rfl, oa'⟩ := hP'.d.op
  obtain ⟨bo', cb', rfl, ob'⟩ := hP'.e.op
  have OB := hid ob
  have OB' := hid ob'
  have le := hP.el
  have le' := hP'.el
  have E7 := hid hP.e7
  have E7' := hid hP'.e7
  obtain ⟨t, ht⟩ : ∃ t, t = E'.any (clashE E) := ⟨_, rfl⟩
  rw [← ht]
  have HT := hid ht
  have HH := hid (any_hit (clashE E) E')
  have HA := hid (any_take (clashE E) E')
  clear oa ob oa' ob' ht hP hP'
  go_enter Tryz.func113, Tryz.ntmps113
  go_wp2
  go_loopw [5] (fun i wr => ∃ k : Nat, k ≤ E'.length ∧ i = .int .i64 k ∧ (E'.take k).any (clashE E) = false ∧ Two w wr (.slice ao D.length ca) (.slice bo E.length cb) (.slice ao' D'.length ca') (.slice bo' E'.length cb')) (fun i _ => E'.length - (intOf i).toNat)
  case atStart => exact ⟨0, by omega, rfl, rfl, Two.start _ _ _ _ _⟩
  case round =>
    obtain ⟨k, hk, rfl, hd, h2⟩ := hrel
    have HD := hid hd
    have TW := hid h2
    have z1 : wr.cell? ⟨w.heap.size + 1, 1, none⟩ = some (.slice bo' E'.length cb') := blk_cell h2.b 1
    clear hd h2
    by_cases hlt : k < E'.length
    · have HS := hid (HA.out k hlt)
      have HHk := hid (HH.out k hlt)
      have h7' := hid (E7'.out _ (mem_getD E' k hlt))
      obtain ⟨g', rfl, hg', hc'⟩ := OB'.out (by omega)
      have HC' := hid (hc' k hlt)
      clear hc'
      generalize E'.getD k [] = x at *
      have HX1 := hid (any_hit (clashF x) E)
      have HX2 := hid (any_take (clashF x) E)
      have HXE : Hid (clashE E x = E.any (clashF x)) := rfl
      go_wp2_with fail
      go_loopw [6] (fun i wr => ∃ j : Nat, j ≤ E.length ∧ i = .int .i64 j ∧ (E.take j).any (clashF x) = false ∧ Two w wr (.slice ao D.length ca) (.slice bo E.length cb) (.slice ao' D'.length ca') (.slice (some ⟨g', 0, none⟩) E'.length cb')) (fun i _ => E.length - (intOf i).toNat)
      case atStart => exact ⟨0, by omega, rfl, rfl, TW.out⟩
      case round =>
        clear z1 TW
        obtain ⟨j, hj, rfl, hdj, h2⟩ := hrel
        have HDj := hid hdj
        have TW := hid h2
        have z0 : wr.cell? ⟨w.heap.size, 1, none⟩ = some (.slice bo E.length cb) := blk_cell h2.a 1
        have z1 : wr.cell? ⟨w.heap.size + 1, 1, none⟩ = some (.slice (some ⟨g', 0, none⟩) E'.length cb') := blk_cell h2.b 1
        have hck' := (bcell h2.bl).1 g' k hg'
        rw [HC'.out] at hck'
        unfold strV at hck'
        clear hdj
        by_cases hlj : j < E.length
        · obtain ⟨g, rfl, hg, hc⟩ := OB.out (by omega)
          have hck := (bcell h2.bl).1 g j hg
          rw [hc j hlj] at hck
          unfold strV at hck
          have h7 := hid (E7.out _ (mem_getD E j hlj))
          have HSj := hid (HX2.out j hlj)
          have HHj := hid (HX1.out j hlj)
          clear hc h2
          generalize E.getD j [] = y at *
          have HCF : Hid (clashF x y = ((dotOf x == dotOf y) && !(x == y))) := rfl
          have HDx := hid (fun wx => dot_any x wx h7'.out)
          have HDy := hid (fun wx => dot_any y wx h7.out)
          unfold strV at HDx HDy
          cases hdd : (dotOf x == dotOf y)
          · have HF1 : Hid ((E.take (j + 1)).any (clashF x) = false) := by show _ = _; rw [HSj.out, HDj.out, HCF.out, hdd]; rfl
            go_wp2_with fail
            go_quiet (first | (go_at_call 142; first | refine Calls.quiet_of_same (HDx.out _) | refine Calls.quiet_of_same (HDy.out _)))
            go_wp2
            go_roundw
            case rel => exact ⟨j + 1, by omega, by go_num, HF1.out, TW.out.on ((Blw.rfl _).drn _)⟩
            case measure => simp [intOf]; omega
          · cases hxy : (x == y)
            · have HF1 : Hid (t = true) := by
                show t = true
                rw [HT.out]; exact HHk.out (by rw [HXE.out]; exact HHj.out (by rw [HCF.out, hdd, hxy]; rfl))
              go_wp2_with fail
              go_quiet (first | (go_at_call 142; first | refine Calls.quiet_of_same (HDx.out _) | refine Calls.quiet_of_same (HDy.out _)))
              go_wp2
              go_ret
              exact ⟨by rw [HF1.out]; rfl, TW.out.bl.drn _⟩
            · have HF1 : Hid ((E.take (j + 1)).any (clashF x) = false) := by show _ = _; rw [HSj.out, HDj.out, HCF.out, hdd, hxy]; rfl
              go_wp2_with fail
              go_quiet (first | (go_at_call 142; first | refine Calls.quiet_of_same (HDx.out _) | refine Calls.quiet_of_same (HDy.out _)))
              go_wp2
              go_roundw
              case rel => exact ⟨j + 1, by omega, by go_num, HF1.out, TW.out.on ((Blw.rfl _).drn _)⟩
              case measure => simp [intOf]; omega
        · have hjn : j = E.length := by omega
          have HF1 : Hid ((E'.take (k + 1)).any (clashE E) = false) := by
            show _ = _
            have := HDj.out; rw [hjn, List.take_length] at this
            rw [HS.out, HD.out, HXE.out, this]; rfl
          clear h2
          subst hjn
          go_wp2
          go_roundw
          case rel => exact ⟨k + 1, by omega, by go_num, HF1.out, TW.out⟩
          case measure => simp [intOf]; omega
    · have hkn : k = E'.length := by omega
      have HF : Hid (t = false) := by show t = false; have := HD.out; rw [hkn, List.take_length] at this; rw [HT.out, this]
      subst hkn
      go_wp2
      go_ret
      exact ⟨by rw [HF.out]; rfl, TW.out.bl⟩
end Go.Proofs.YtalaldfgjgpacaaGreatDoor

namespace Go.Proofs.YtalaldfgjgpacaaGreatDoor
set_option linter.unusedVariables false
set_option linter.unusedSimpArgs false
open Go.RowKit
attribute [local go_sem ↓] Go.wp_at_zero Go.wp_at_succ

/-- The dot ahead. -/
def aheadT (d : Bs) : Bs := [d.getD 0 0, UInt8.ofNat ((d.getD 1 0).toNat - 1)]
def holeF (D : List Bs) (d : Bs) : Bool := decide (49 < (d.getD 1 0).toNat) && !hasL D (aheadT d)

theorem conv2e (m n : Int) (w : World) : (convert 131 9 (.slice (some ⟨w.heap.size, 0, none⟩) 2 2)).run Tryz.prog (w.alloc (.cells #[.int .u8 m, .int .u8 n] 5)).drew = .ok (.string ⟨#[UInt8.ofNat m.toNat, UInt8.ofNat n.toNat]⟩) (w.alloc (.cells #[.int .u8 m, .int .u8 n] 5)).drew := by
  rw [run_convert_bytes_string _ 131 9 5 _ _ _ Tryz.underlying131 Tryz.underlying5 Tryz.underlying9]
  rw [run_bytesToString _ _ _ _ [m, n]]
  · rfl
  · have := run_loadCells_list (P := Tryz.prog) (w.alloc (.cells #[.int .u8 m, .int .u8 n] 5)).drew ⟨w.heap.size, 0, none⟩ [.int .u8 m, .int .u8 n] (fun j v hv => by
      match j, hv with
      | 0, hv => simp at hv; subst hv; simp [Addr.add]
      | 1, hv => simp at hv; subst hv; simp [Addr.add])
    simpa using this
theorem conv2d (m n : Int) (w : World) : (convert 131 9 (.slice (some ⟨w.heap.size, 0, none⟩) 2 2)).run Tryz.prog (w.drew.alloc (.cells #[.int .u8 m, .int .u8 n] 5)) = .ok (.string ⟨#[UInt8.ofNat m.toNat, UInt8.ofNat n.toNat]⟩) (w.drew.alloc (.cells #[.int .u8 m, .int .u8 n] 5)) := conv2 m n w.drew

set_option maxRecDepth 100000 in
set_option maxHeartbeats 2000000 in
theorem rhole_any (a b : Value) (D E : List Bs) (w : World) (hP : PcAt w a b D E) :
    Calls Tryz.prog 112 #[.agg #[a, b]] w fun e w' => e = .returned (.bool (D.any (holeF D))) ∧ Blw w w' := by
  obtain ⟨ao, ca, rfl, oa⟩ := hP.d.op
  obtain ⟨bo, cb, rfl, ob⟩ := hP.e.op
  have OA := hid oa
  have D2 := hid hP.d2
  have ld := hP.dl
  have HPd := hid hP.d
  obtain ⟨t, ht⟩ : ∃ t, t = D.any (holeF D) := ⟨_, rfl⟩
  rw [← ht]
  have HT := hid ht
  have HH := hid (any_hit (holeF D) D)
  have HA := hid (any_take (holeF D) D)
  clear oa ob ht hP
  go_enter Tryz.func112, Tryz.ntmps112
  go_wp2
  go_loopw [3] (fun i wr => ∃ k : Nat, k ≤ D.length ∧ i = .int .i64 k ∧ (D.take k).any (holeF D) = false ∧ wr.heap[w.heap.size]? = some (.cells #[.slice ao D.length ca, .slice bo E.length cb] 120) ∧ Blw w wr) (fun i _ => D.length - (intOf i).toNat)
  case atStart => exact ⟨0, by omega, rfl, rfl, hp_new _ _, (Blw.rfl _).al _⟩
  case round =>
    obtain ⟨k, hk, rfl, hd, hbx, hbw⟩ := hrel
    have HD := hid hd
    have BW := hid hbw
    have BX := hid hbx
    have z0 : wr.cell? ⟨w.heap.size, 0, none⟩ = some (.slice ao D.length ca) := blk_cell hbx 0
    clear hd hbx hbw
    by_cases hlt : k < D.length
    · obtain ⟨g, rfl, hg, hc⟩ := OA.out (by omega)
      obtain ⟨c0, c1, hx, h48⟩ := D2.out _ (mem_getD D k hlt)
      have hck := (bcell BW.out).1 g k hg
      rw [hc k hlt, hx] at hck
      unfold strV at hck
      have HS := hid (HA.out k hlt)
      have HHk := hid (HH.out k hlt)
      rw [hx] at HS HHk
      obtain ⟨y, hy, hz, hz1, hy0, hy1⟩ : ∃ y : ByteArray, y = ⟨[c0, c1].toArray⟩ ∧ ∃ (hz : 0 < y.size) (hz1 : 1 < y.size), y[0]'hz = c0 ∧ y[1]'hz1 = c1 := ⟨_, rfl, (show 0 < 2 by decide), (show 1 < 2 by decide), rfl, rfl⟩
      have hy2 : y.size = 2 := by rw [hy]; rfl
      rw [← hy] at hck
      have HF : Hid (holeF D [c0, c1] = (decide (49 < c1.toNat) && !hasL D [c0, UInt8.ofNat (c1.toNat - 1)])) := rfl
      have e0 : ((y[0]'hz).toNat : Int) = (c0.toNat : Int) := by rw [hy0]
      have e1 : ((y[1]'hz1).toNat : Int) = (c1.toNat : Int) := by rw [hy1]
      have b0 := c0.toNat_lt
      have b1 := c1.toNat_lt
      clear hc hx hy hy0 hy1
      by_cases h49 : 49 < c1.toNat
      · have hcv := conv2 (c0.toNat : Int) (IntKind.u8.wrap ((c1.toNat : Int) - 1))
        have hcd := conv2d (c0.toNat : Int) (IntKind.u8.wrap ((c1.toNat : Int) - 1))
        have hce := conv2e (c0.toNat : Int) (IntKind.u8.wrap ((c1.toNat : Int) - 1))
        have f0 : UInt8.ofNat ((c0.toNat : Int)).toNat = c0 := by simp
        have hwp : IntKind.u8.wrap ((c1.toNat : Int) - 1) = (c1.toNat : Int) - 1 := by rw [IntKind.wrap_u8]; omega
        have f1 : UInt8.ofNat (IntKind.u8.wrap ((c1.toNat : Int) - 1)).toNat = UInt8.ofNat (c1.toNat - 1) := by rw [hwp, show ((c1.toNat : Int) - 1).toNat = c1.toNat - 1 by omega]
        rw [f0, f1] at hcv hcd hce
        clear hwp
        have HHs := hid (fun wx hx => has_any D [c0, UInt8.ofNat (c1.toNat - 1)] (.slice (some ⟨g, 0, none⟩) D.length ca) 0 wx hx (by omega))
        unfold strV at HHs
        obtain ⟨xb, hxb⟩ : ∃ xb : ByteArray, xb = ⟨[c0, UInt8.ofNat (c1.toNat - 1)].toArray⟩ := ⟨_, rfl⟩
        rw [← hxb] at HHs
        rw [show ByteArray.mk #[c0, UInt8.ofNat (c1.toNat - 1)] = xb from hxb.symm] at hcv hcd hce
        have hlw : wr.heap.size = wr.heap.size := rfl
        have hgw : w.heap.size < wr.heap.size := lt_of_blk BX.out
        clear f0 f1 hxb hlw
        generalize UInt8.ofNat (c1.toNat - 1) = cc at *
        go_wp2_with fail
        go_cut [5] (fun s w' => s = .bool (hasL D [c0, cc]) ∧ Blw wr w')
        case first =>
          go_region_with (first | (go_at_call 149; refine (HHs.out _ (HPd.out.on (BW.out.tr (by first | exact Blw.al (Blw.dr (Blw.rfl _)) _ | exact Blw.dr (Blw.al (Blw.rfl _) _))))).mono ?_; rintro e w3 ⟨rfl, rfl⟩))
          all_goals
            go_wp2_with fail
            go_meet
            case rel => exact ⟨rfl, by first | exact Blw.al (Blw.dr (Blw.rfl _)) _ | exact Blw.dr (Blw.al (Blw.rfl _) _)⟩
        case rest =>
          obtain ⟨rfl, hb3⟩ := hcut
          have B3 := hid hb3
          clear hb3
          cases hh : hasL D [c0, cc]
          · have HF1 : Hid (t = true) := by show t = true; rw [HT.out]; exact HHk.out (by rw [HF.out, hh]; simpa using h49)
            go_wp2
            go_ret
            exact ⟨by rw [HF1.out]; rfl, BW.out.tr B3.out⟩
          · have HF1 : Hid ((D.take (k + 1)).any (holeF D) = false) := by show _ = _; rw [HS.out, HD.out, HF.out, hh]; simp
            go_wp2
            go_roundw
            case rel => exact ⟨k + 1, by omega, by go_num, HF1.out, B3.out.bk' BX.out, BW.out.tr B3.out⟩
            case measure => simp [intOf]; omega
      · have HF1 : Hid ((D.take (k + 1)).any (holeF D) = false) := by show _ = _; rw [HS.out, HD.out, HF.out]; simp [h49]
        go_wp2
        go_roundw
        case rel => exact ⟨k + 1, by omega, by go_num, HF1.out, BX.out, BW.out⟩
        case measure => simp [intOf]; omega
    · have hkn : k = D.length := by omega
      have HF : Hid (t = false) := by show t = false; have := HD.out; rw [hkn, List.take_length] at this; rw [HT.out, this]
      subst hkn
      go_wp2
      go_ret
      exact ⟨by rw [HF.out]; rfl, BW.out⟩
end Go.Proofs.YtalaldfgjgpacaaGreatDoor
