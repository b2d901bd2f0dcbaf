import Derived.Test.YtalaldfgjgpacaaGreatDoorGB
import Derived.Deep.RegionWith
import Derived.Deep.RegionHeld3
import Derived.Deep.DeepCutAuto
namespace Go.Proofs.YtalaldfgjgpacaaGreatDoor
set_option linter.unusedVariables false
set_option linter.unusedSimpArgs false
open Go.RowKit
attribute [local go_sem ↓] Go.wp_at_zero Go.wp_at_succ run_load63 run_store63
attribute [local go_sem] blkOf_mk offOf_mk isPt_mk isRow_pc Has_drew HasW_drew rowOf_drew HasW_new Has_alloc rowOf_alloc

/-- What a replica's row and a piece's box give. -/
theorem facts4 {w wr : World} {b me n : Nat} {h0 p : Pc} {x : Ext} (h1 : wr.heap[b]? = some (.cells (repArr me n h0 x) 69)) (h2 : wr.heap[w.heap.size]? = some (.cells p.arr 65)) :
    Has wr b 2 ∧ rowOf wr b 2 = h0.arr ∧ Has wr w.heap.size 0 ∧ rowOf wr w.heap.size 0 = p.arr := ⟨Has_rep h1, rowOf_rep h1, Has_pc h2, rowOf_pc h2⟩

def fitsB (n : Nat) (h0 p : Pc) : Bool := ofTo p n 3 && (!clashTo h0 p 27 && !(h0.join p).holeTo 27)
/-- Why a piece may not be joined; 0: it may. -/
def checkE (n : Nat) (h0 p : Pc) : Int := if ofTo p n 3 = true then (if (h0.join p).holeTo 27 = true then 7 else if clashTo h0 p 27 = true then 8 else 0) else 6
theorem checkE_fits (n : Nat) (h0 p : Pc) : fitsB n h0 p = decide (checkE n h0 p = 0) := by
  unfold fitsB checkE
  cases ofTo p n 3 <;> cases clashTo h0 p 27 <;> cases (h0.join p).holeTo 27 <;> rfl
theorem checkE_bd (n : Nat) (h0 p : Pc) : 0 ≤ checkE n h0 p ∧ checkE n h0 p ≤ 8 := by
  unfold checkE
  cases ofTo p n 3 <;> cases clashTo h0 p 27 <;> cases (h0.join p).holeTo 27 <;> simp

set_option maxRecDepth 100000 in
set_option maxHeartbeats 2000000 in
theorem checkPiece_any (b me n : Nat) (h0 p : Pc) (x : Ext) (w : World) (hn : n ≤ 3) (h : w.heap[b]? = some (.cells (repArr me n h0 x) 69)) :
    Calls Tryz.prog 31 #[.pointer (some ⟨b, 0, none⟩), .agg p.arr] w fun e w' => e = .returned (.int .i64 (checkE n h0 p)) ∧ Blw w w' := by
  have HB := hid (HasPc.start p w)
  have H := hid h
  have HI := hid (fun wx hx => isOfCluster_any b me n h0 p x wx hn hx)
  have HC := hid (fun wx => clash_any h0 p wx)
  have HJ := hid (fun wx => join_any h0 p wx)
  have HH := hid (fun wx => hasHole_any (h0.join p) wx)
  have hrow := rowOf_pc HB.out.1
  have hhas := Has_pc HB.out.1
  have hbl := lt_of_blk h
  have HFD : Hid (checkE n h0 p = if ofTo p n 3 = true then (if (h0.join p).holeTo 27 = true then 7 else if clashTo h0 p 27 = true then 8 else 0) else 6) := rfl
  obtain ⟨t, ht⟩ : ∃ t, t = checkE n h0 p := ⟨_, rfl⟩
  rw [← ht] at HFD
  rw [← ht]
  clear h ht
  go_enter Tryz.func31, Tryz.ntmps31
  go_wp2_with fail
  refine (HI.out _ (HB.out.2.2.bk' H.out)).mono ?_
  rintro e w1 ⟨rfl, b1⟩
  have P1 := hid (HB.out.on b1)
  have R1 := hid (P1.out.2.2.bk' H.out)
  clear b1 hrow hhas
  cases ho : ofTo p n 3
  · have HF : Hid (t = 6) := by show t = 6; rw [HFD.out, ho]; rfl
    go_wp2
    go_ret
    exact ⟨by rw [HF.out]; rfl, P1.out.2.2⟩
  · obtain ⟨a1, a2, a3, a4⟩ := facts4 R1.out P1.out.1
    have z0 := lt_of_blk R1.out
    have z1 := lt_of_blk P1.out.1
    go_wp2_with fail
    go_cut [5] (fun s w' => ∃ nb, s = .pointer (some ⟨nb, 0, none⟩) ∧ w'.heap[nb]? = some (.cells (h0.join p).arr 65) ∧ Blw w1 w')
    case first =>
      go_region_with (first | (go_at_call 74; refine (HJ.out _).mono ?_; rintro e w3 ⟨rfl, b3⟩; have sz3 : w1.heap.size ≤ w3.heap.size := (by have := b3.sz; simp at this; omega); (first | (have hW3 : HasW w3 w1.heap.size 0 := HasW_of (b3.bk' (hp_new w1 (.cells Tryz.zeroCells65 65))) zle63; have R := hid (putB (xt := x) (q := h0.join p) (Blw.rfl w1) R1.out b3)) | (have R := hid (putA (xt := x) (q := h0.join p) (Blw.rfl w1) R1.out b3)))))
      all_goals
        go_wp2_with fail
        go_meet
        case rel => exact ⟨_, rfl, R.out.1, R.out.2.2⟩
    case rest =>
      obtain ⟨nb, rfl, g1, g2⟩ := hcut
      have r5 := rowOf_pc g1
      have h5 := Has_pc g1
      have G2 := hid g2
      clear g1 g2 a1 a2 a3 a4
      go_wp2_with fail
      refine (HH.out _).mono ?_
      rintro e w5 ⟨rfl, b5⟩
      have B5 := hid (G2.out.tr b5)
      have P5 := hid (P1.out.on B5.out)
      have R5 := hid (B5.out.bk' R1.out)
      clear r5 h5 b5
      cases hh : (h0.join p).holeTo 27
      · obtain ⟨a1, a2, a3, a4⟩ := facts4 R5.out P5.out.1
        go_wp2_with fail
        go_region_held3 (fun w' => Has w' b 2 ∧ rowOf w' b 2 = h0.arr ∧ Has w' w.heap.size 0 ∧ rowOf w' w.heap.size 0 = p.arr) (first | exact Q1.out | exact ⟨a1, a2, a3, a4⟩)
          (first | (go_at_call 76; refine (HC.out _).mono ?_; rintro e w6 ⟨rfl, b6⟩; have B6 := hid (Blw.tr (Blw.dr (Blw.rfl _)) b6); have Q1 := hid (facts4 (B6.out.bk' R5.out) (B6.out.bk' P5.out.1)); clear b6))
        clear a1 a2 a3 a4
        cases hcl : clashTo h0 p 27
        · have HF : Hid (t = 0) := by show t = 0; rw [HFD.out, ho, hh, hcl]; rfl
          go_wp2
          go_ret
          exact ⟨by rw [HF.out]; rfl, P5.out.2.2.tr B6.out⟩
        · have HF : Hid (t = 8) := by show t = 8; rw [HFD.out, ho, hh, hcl]; rfl
          go_wp2
          go_ret
          exact ⟨by rw [HF.out]; rfl, P5.out.2.2.tr B6.out⟩
      · have HF : Hid (t = 7) := by show t = 7; rw [HFD.out, ho, hh]; rfl
        go_wp2
        go_ret
        exact ⟨by rw [HF.out]; rfl, P5.out.2.2⟩

set_option maxRecDepth 100000 in
set_option maxHeartbeats 2000000 in
theorem hasNews_any (b me n : Nat) (h0 p : Pc) (x : Ext) (w : World) (h : w.heap[b]? = some (.cells (repArr me n h0 x) 69)) :
    Calls Tryz.prog 32 #[.pointer (some ⟨b, 0, none⟩), .agg p.arr] w fun e w' => e = .returned (.bool (decide (h0.dots < (h0.join p).dots))) ∧ Blw w w' := by
  have HB := hid (HasPc.start p w)
  have H := hid h
  have HJ := hid (fun wx => join_any h0 p wx)
  have HS := hid (fun q wx => size_any q wx)
  have R1 := hid (HB.out.2.2.bk' h)
  have l1 := size_le27 h0
  have l2 := size_le27 (h0.join p)
  obtain ⟨a1, a2, a3, a4⟩ := facts4 R1.out HB.out.1
  have z0 := lt_of_blk R1.out
  have z1 := lt_of_blk HB.out.1
  obtain ⟨t, ht⟩ : ∃ t, t = decide (h0.dots < (h0.join p).dots) := ⟨_, rfl⟩
  rw [← ht]
  have HT := hid ht
  clear h ht
  go_enter Tryz.func32, Tryz.ntmps32
  go_wp2_with fail
  generalize hw2 : w.alloc (.cells p.arr 65) = w2 at *
  clear hw2
  go_cut [5] (fun s w' => ∃ nb, s = .pointer (some ⟨nb, 0, none⟩) ∧ w'.heap[nb]? = some (.cells (h0.join p).arr 65) ∧ w'.heap[b]? = some (.cells (repArr me n h0 x) 69) ∧ Blw w w')
  case first =>
    go_region_with (first | (go_at_call 74; refine (HJ.out _).mono ?_; rintro e w3 ⟨rfl, b3⟩; have sz3 : w2.heap.size ≤ w3.heap.size := (by have := b3.sz; simp at this; omega); (first | (have hW3 : HasW w3 w2.heap.size 0 := HasW_of (b3.bk' (hp_new w2 (.cells Tryz.zeroCells65 65))) zle63; have R := hid (putB (xt := x) (q := h0.join p) HB.out.2.2 R1.out b3)) | (have R := hid (putA (xt := x) (q := h0.join p) HB.out.2.2 R1.out b3)))))
    all_goals
      go_wp2_with fail
      go_meet
      case rel => exact ⟨_, rfl, R.out.1, R.out.2.1, R.out.2.2⟩
  case rest =>
    obtain ⟨nb, rfl, g1, g2, g3⟩ := hcut
    have G1 := hid g1
    have G3 := hid g3
    have r2 := rowOf_rep g2
    have h2 := Has_rep g2
    clear g1 g2 g3 a1 a2 a3 a4
    go_wp2_with fail
    refine (HS.out h0 _).mono ?_
    rintro e w5 ⟨rfl, b5⟩
    have r6 := rowOf_pc (b5.bk' G1.out)
    have h6 := Has_pc (b5.bk' G1.out)
    clear r2 h2
    go_wp2_with fail
    refine (HS.out (h0.join p) _).mono ?_
    rintro e w6 ⟨rfl, b6⟩
    clear r6 h6
    by_cases hlt : h0.dots < (h0.join p).dots
    · have HF : Hid (t = true) := by show t = true; rw [HT.out]; simpa using hlt
      go_wp2
      go_ret
      exact ⟨by rw [HF.out]; first | rfl | simp [hlt], G3.out.tr (b5.tr b6)⟩
    · have HF : Hid (t = false) := by show t = false; rw [HT.out]; simpa using hlt
      go_wp2
      go_ret
      exact ⟨by rw [HF.out]; first | rfl | simp [hlt], G3.out.tr (b5.tr b6)⟩
end Go.Proofs.YtalaldfgjgpacaaGreatDoor
