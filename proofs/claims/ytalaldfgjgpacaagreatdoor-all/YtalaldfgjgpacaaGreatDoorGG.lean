import Derived.Test.YtalaldfgjgpacaaGreatDoorGF
import Derived.Test.YtalaldfgjgpacaaGreatDoorP1
namespace Go.Proofs.YtalaldfgjgpacaaGreatDoor
set_option linter.unusedVariables false
set_option linter.unusedSimpArgs false
open Go.RowKit
attribute [local go_sem ↓] Go.wp_at_zero Go.wp_at_succ run_load63 run_store63
attribute [local go_sem] blkOf_mk offOf_mk isPt_mk isRow_pc Has_drew HasW_drew rowOf_drew HasW_new Has_alloc rowOf_alloc

/-- Whether a delta's text may be taken in by a replica that holds h. -/
def deltaOk (n : Nat) (h : Pc) (l : Bs) : Bool := readOk l && (fitsB n h (readP l) && decide (h.dots < (h.join (readP l)).dots))

def deltaTo (n : Nat) (h : Pc) (l : Bs) : Pc := if deltaOk n h l then h.join (readP l) else h
def deltaX (n : Nat) (h : Pc) (x : Ext) (l : Bs) : Ext := if deltaOk n h l then x.take (readP l) else x

theorem readP_ok (l : Bs) : (readP l).ok := by
  unfold readP
  split
  · exact gather_ok l
  · exact Pc.empty_ok

set_option maxRecDepth 100000 in
set_option maxHeartbeats 4000000 in
theorem readDelta_any (b me n : Nat) (h0 : Pc) (x : Ext) (l : Bs) (w : World) (hl : l.length ≤ 1000000) (hn : n ≤ 3) (hx : x.small) (ht : Tab Tryz.prog w) (h : w.heap[b]? = some (.cells (repArr me n h0 x) 69)) :
    Calls Tryz.prog 158 #[.pointer (some ⟨b, 0, none⟩), .string ⟨l.toArray⟩] w fun e w' => e = .returned (.bool (deltaOk n h0 l)) ∧ RepTo b me n (deltaTo n h0 l) (deltaX n h0 x l) w w' := by
  have HR := hid (fun wx => pread_any l wx hl)
  have HO : Hid (deltaOk n h0 l = (readOk l && (fitsB n h0 (readP l) && decide (h0.dots < (h0.join (readP l)).dots)))) := rfl
  have HT : Hid (deltaTo n h0 l = if deltaOk n h0 l then h0.join (readP l) else h0) := rfl
  have HX : Hid (deltaX n h0 x l = if deltaOk n h0 l then x.take (readP l) else x) := rfl
  have HQ := hid (readP_ok l)
  generalize deltaTo n h0 l = dt at *
  generalize deltaX n h0 x l = dx at *
  generalize deltaOk n h0 l = dk at *
  generalize readP l = q at *
  generalize readOk l = ok at *
  have HF := hid (fun wx hw => checkPiece_any b me n h0 q x wx hn hw)
  have HCE := hid (checkE_fits n h0 q)
  generalize checkE n h0 q = ce at *
  have HN := hid (fun wx hw => hasNews_any b me n h0 q x wx hw)
  have HL := hid (fun wx ht' hw => takeIn_any b me n h0 q x wx HQ.out hx ht' hw)
  generalize fitsB n h0 q = ft at *
  generalize decide (h0.dots < (h0.join q).dots) = nw at *
  have H := hid h
  have T := hid ht
  clear h ht hx hn
  go_enter Tryz.func158, Tryz.ntmps158
  go_wp2_with fail
  refine (HR.out _).mono ?_
  rintro e w1 ⟨rfl, b1⟩
  have G1 := hid (b1.bk' H.out)
  have B1 := hid b1
  clear b1
  go_upto_region 2 with fail
  obtain ⟨w2, hw2⟩ : ∃ w2, w2 = putRowAt (w1.alloc (.cells Tryz.zeroCells65 65)) w1.heap.size 0 (.agg q.arr) := ⟨_, rfl⟩
  have hlt : b < w1.heap.size := (Array.getElem?_eq_some_iff.1 G1.out).1
  have hsz := B1.out.sz
  have G2 : Hid (w2.heap[b]? = some (.cells (repArr me n h0 x) 69)) := by rw [hw2]; exact (put_ne (by omega)).trans (hp_old _ hlt G1.out)
  have K2 : Hid (w2.heap[w1.heap.size]? = some (.cells q.arr 65)) := by rw [hw2]; exact put_new
  have B2 : Hid (Blw w w2) := by rw [hw2]; exact put_blw (B1.out.al _) _ _ (by omega)
  rw [← hw2]
  clear hw2 G1 B1
  generalize w1.heap.size = c at *
  have hrow := rowOf_pc K2.out
  have hhas := Has_pc K2.out
  cases ok
  · have HE : Hid (dk = false) := by show _ = _; rw [HO.out]; rfl
    go_wp2
    go_ret
    rw [HT.out, HX.out, HE.out]; simp only [Bool.false_eq_true, if_false]
    exact ⟨rfl, ⟨G2.out, B2.out.bx b⟩⟩
  · go_wp2_with fail
    refine (HF.out _ G2.out).mono ?_
    rintro e w3 ⟨rfl, b3⟩
    have G3 := hid (b3.bk' G2.out)
    have K3 := hid (b3.bk' K2.out)
    have B3 := hid (B2.out.tr b3)
    clear G2 K2 B2 b3 hrow hhas
    have hrow := rowOf_pc K3.out
    have hhas := Has_pc K3.out
    by_cases hce : ¬ ce = 0
    · have hft : ft = false := by rw [HCE.out]; exact decide_eq_false hce
      subst hft
      have hcb : (ce == 0) = false := by simpa using hce
      have HE : Hid (dk = false) := by show _ = _; rw [HO.out]; rfl
      go_wp2
      go_ret
      rw [HT.out, HX.out, HE.out]; simp only [Bool.false_eq_true, if_false]
      exact ⟨rfl, ⟨G3.out, B3.out.bx b⟩⟩
    · have hce' : ce = 0 := Classical.byContradiction hce
      have hft : ft = true := by rw [HCE.out]; exact decide_eq_true hce'
      subst hft
      subst hce'
      go_wp2_with fail
      refine (HN.out _ G3.out).mono ?_
      rintro e w4 ⟨rfl, b4⟩
      have G4 := hid (b4.bk' G3.out)
      have K4 := hid (b4.bk' K3.out)
      have B4 := hid (B3.out.tr b4)
      clear G3 K3 B3 b4 hrow hhas
      have hrow := rowOf_pc K4.out
      have hhas := Has_pc K4.out
      cases nw
      · have HE : Hid (dk = false) := by show _ = _; rw [HO.out]; rfl
        go_wp2
        go_ret
        rw [HT.out, HX.out, HE.out]; simp only [Bool.false_eq_true, if_false]
        exact ⟨rfl, ⟨G4.out, B4.out.bx b⟩⟩
      · have HE : Hid (dk = true) := by show _ = _; rw [HO.out]; rfl
        go_wp2_with fail
        refine (HL.out _ (T.out.blw B4.out) G4.out).mono ?_
        rintro e w5 ⟨rfl, r5⟩
        have R5 := hid r5
        clear r5
        go_wp2
        go_ret
        rw [HT.out, HX.out, HE.out]; simp only [if_true]
        exact ⟨rfl, ⟨R5.out.1, Bx.tr (B4.out.bx b) R5.out.2⟩⟩
end Go.Proofs.YtalaldfgjgpacaaGreatDoor

namespace Go.Proofs.YtalaldfgjgpacaaGreatDoor
set_option linter.unusedVariables false
set_option linter.unusedSimpArgs false
open Go.RowKit
attribute [local go_sem ↓] Go.wp_at_zero Go.wp_at_succ run_load63 run_store63
attribute [local go_sem] blkOf_mk offOf_mk isPt_mk isRow_pc Has_drew HasW_drew rowOf_drew HasW_new Has_alloc rowOf_alloc

/-- Whether the text of a whole state may stand, and what it makes. -/
def wholeOk (n : Nat) (h : Pc) (l : Bs) : Bool := decide (2 ≤ l.length) && (okD (l.take 2) && (readOk (l.drop 2) && (fitsB n h (readP (l.drop 2)) && decide (numTo (l.take 2) 2 ≤ (readP (l.drop 2)).dots))))
def wholeTo (n : Nat) (h : Pc) (l : Bs) : Pc := if wholeOk n h l then readP (l.drop 2) else h
def wholeX (n : Nat) (h : Pc) (x : Ext) (l : Bs) : Ext := if wholeOk n h l then ({ x with had := numTo (l.take 2) 2 } : Ext).compact (readP (l.drop 2)) else x

theorem numTo_two (t : Bs) (h : okD t = true) (ht : t.length = 2) : numTo t 2 < 100 := by
  simp only [okD, Bool.and_eq_true, decide_eq_true_eq] at h
  refine numTo_bd t 2 (fun j hj => ?_)
  exact (List.all_eq_true.1 h.2.2) _ (by rw [List.getD_eq_getElem?_getD, List.getElem?_eq_getElem (by omega)]; exact List.getElem_mem _)

set_option maxRecDepth 100000 in
set_option maxHeartbeats 4000000 in
theorem readWhole_any (b me n : Nat) (h0 : Pc) (x : Ext) (l : Bs) (w : World) (hl : l.length ≤ 1000000) (hn : n ≤ 3) (ht : Tab Tryz.prog w) (h : w.heap[b]? = some (.cells (repArr me n h0 x) 69)) :
    Calls Tryz.prog 159 #[.pointer (some ⟨b, 0, none⟩), .string ⟨l.toArray⟩] w fun e w' => e = .returned (.bool (wholeOk n h0 l)) ∧ RepTo b me n (wholeTo n h0 l) (wholeX n h0 x l) w w' := by
  have HO : Hid (wholeOk n h0 l = (decide (2 ≤ l.length) && (okD (l.take 2) && (readOk (l.drop 2) && (fitsB n h0 (readP (l.drop 2)) && decide (numTo (l.take 2) 2 ≤ (readP (l.drop 2)).dots)))))) := rfl
  have HT : Hid (wholeTo n h0 l = if wholeOk n h0 l then readP (l.drop 2) else h0) := rfl
  have HX : Hid (wholeX n h0 x l = if wholeOk n h0 l then ({ x with had := numTo (l.take 2) 2 } : Ext).compact (readP (l.drop 2)) else x) := rfl
  generalize wholeTo n h0 l = dt at *
  generalize wholeX n h0 x l = dx at *
  generalize wholeOk n h0 l = dk at *
  have H := hid h
  have T := hid ht
  obtain ⟨y, hy⟩ : ∃ y : ByteArray, y = ⟨l.toArray⟩ := ⟨_, rfl⟩
  have hys : y.size = l.length := by rw [hy, bs_size]
  rw [← hy]
  by_cases h2 : l.length < 2
  · have HE : Hid (dk = false) := by show _ = _; rw [HO.out, decide_eq_false (by omega)]; rfl
    have hd : decide ((y.size : Int) < 2) = true := by simp; omega
    have hd' : y.size < 2 := by omega
    have HH := hid hys
    clear h ht hn hys hy
    go_enter Tryz.func159, Tryz.ntmps159
    go_wp2
    go_ret
    rw [HT.out, HX.out, HE.out]; simp only [Bool.false_eq_true, if_false]
    exact ⟨rfl, ⟨H.out, Bx.rfl b w⟩⟩
  · have HX1 : Hid (y.extract 0 2 = ByteArray.mk (l.take 2).toArray) := by rw [hy]; exact (bs_extract l 0 2).trans (by simp)
    have HX2 : Hid (y.extract 2 y.size = ByteArray.mk (l.drop 2).toArray) := by rw [hys, hy]; exact (bs_extract l 2 _).trans (by rw [List.take_of_length_le (by simp)])
    have tl : (l.take 2).length = 2 := by simp; omega
    have HD := hid (fun wx => dread_any (l.take 2) wx (by omega))
    rw [tl] at HD
    have HNB := hid (fun ho => numTo_two (l.take 2) ho tl)
    have HR := hid (fun wx => pread_any (l.drop 2) wx (by simp; omega))
    have HQ := hid (readP_ok (l.drop 2))
    have HO' : Hid (dk = (okD (l.take 2) && (readOk (l.drop 2) && (fitsB n h0 (readP (l.drop 2)) && decide (numTo (l.take 2) 2 ≤ (readP (l.drop 2)).dots))))) := by show _ = _; rw [HO.out, decide_eq_true (by omega), Bool.true_and]
    generalize readP (l.drop 2) = q at *
    generalize readOk (l.drop 2) = ok at *
    generalize okD (l.take 2) = od at *
    generalize numTo (l.take 2) 2 = d at *
    have HF := hid (fun wx hw => checkPiece_any b me n h0 q x wx hn hw)
    have HCE := hid (checkE_fits n h0 q)
    generalize checkE n h0 q = ce at *
    have HS := hid (fun wx => size_any q wx)
    generalize fitsB n h0 q = ft at *
    have hd : decide ((y.size : Int) < 2) = false := by simp; omega
    have hd' : ¬ y.size < 2 := by omega
    have hd2 : 2 ≤ y.size := by omega
    have hd3 : (2 : Int) ≤ (y.size : Int) := by omega
    have HH := hid hys
    clear h ht hn hys hy HO tl h2
    go_enter Tryz.func159, Tryz.ntmps159
    go_wp2_with fail
    rw [HX1.out]
    refine (HD.out _).mono ?_
    rintro e w1 ⟨rfl, hw1⟩
    subst w1
    cases od
    · have HE : Hid (dk = false) := by show _ = _; rw [HO'.out]; rfl
      go_wp2
      go_ret
      rw [HT.out, HX.out, HE.out]; simp only [Bool.false_eq_true, if_false]
      exact ⟨rfl, ⟨H.out, Bx.rfl b w⟩⟩
    · have hdb := HNB.out rfl
      simp only [if_true]
      go_wp2_with fail
      rw [HX2.out]
      refine (HR.out _).mono ?_
      rintro e w1 ⟨rfl, b1⟩
      have G1 := hid (b1.bk' H.out)
      have B1 := hid b1
      clear b1
      go_upto_region 7 with fail
      obtain ⟨w2, hw2⟩ : ∃ w2, w2 = putRowAt (w1.alloc (.cells Tryz.zeroCells65 65)) w1.heap.size 0 (.agg q.arr) := ⟨_, rfl⟩
      have hlt : b < w1.heap.size := (Array.getElem?_eq_some_iff.1 G1.out).1
      have hsz := B1.out.sz
      have G2 : Hid (w2.heap[b]? = some (.cells (repArr me n h0 x) 69)) := by rw [hw2]; exact (put_ne (by omega)).trans (hp_old _ hlt G1.out)
      have K2 : Hid (w2.heap[w1.heap.size]? = some (.cells q.arr 65)) := by rw [hw2]; exact put_new
      have B2 : Hid (Blw w w2) := by rw [hw2]; exact put_blw (B1.out.al _) _ _ (by omega)
      rw [← hw2]
      clear hw2 G1 B1
      generalize w1.heap.size = c at *
      have hrow := rowOf_pc K2.out
      have hhas := Has_pc K2.out
      cases ok
      · have HE : Hid (dk = false) := by show _ = _; rw [HO'.out]; rfl
        go_wp2
        go_ret
        rw [HT.out, HX.out, HE.out]; simp only [Bool.false_eq_true, if_false]
        exact ⟨rfl, ⟨G2.out, B2.out.bx b⟩⟩
      · go_wp2_with fail
        refine (HF.out _ G2.out).mono ?_
        rintro e w3 ⟨rfl, b3⟩
        have G3 := hid (b3.bk' G2.out)
        have K3 := hid (b3.bk' K2.out)
        have B3 := hid (B2.out.tr b3)
        clear G2 K2 B2 b3 hrow hhas
        have hrow := rowOf_pc K3.out
        have hhas := Has_pc K3.out
        by_cases hce : ¬ ce = 0
        · have hft : ft = false := by rw [HCE.out]; exact decide_eq_false hce
          subst hft
          have hcb : (ce == 0) = false := by simpa using hce
          have HE : Hid (dk = false) := by show _ = _; rw [HO'.out]; rfl
          go_wp2
          go_ret
          rw [HT.out, HX.out, HE.out]; simp only [Bool.false_eq_true, if_false]
          exact ⟨rfl, ⟨G3.out, B3.out.bx b⟩⟩
        · have hce' : ce = 0 := Classical.byContradiction hce
          have hft : ft = true := by rw [HCE.out]; exact decide_eq_true hce'
          subst hft
          subst hce'
          go_wp2_with fail
          refine (HS.out _).mono ?_
          rintro e w4 ⟨rfl, b4⟩
          have G4 := hid (b4.bk' G3.out)
          have K4 := hid (b4.bk' K3.out)
          have B4 := hid (B3.out.tr b4)
          clear G3 K3 B3 b4 hrow hhas
          have hrow := rowOf_pc K4.out
          have hhas := Has_pc K4.out
          have hhw := HasW_rep G4.out
          by_cases hle : d ≤ q.dots
          · have HE : Hid (dk = true) := by show _ = _; rw [HO'.out, decide_eq_true hle]; rfl
            have g1 : ¬ ((q.dots : Int) < (d : Int)) := by omega
            have g2 : ¬ (q.dots < d) := by omega
            have HP1 : Hid ((putRowAt w4 b 2 (.agg q.arr)).heap[b]? = some (.cells (repArr me n q x) 69)) := put_rep G4.out
            have HP2 : Hid (Bx b w (putRowAt w4 b 2 (.agg q.arr))) := put_bx (B4.out.bx b) _ _
            have HK := hid (fun wx ht' hw => compact_any b me n q { x with had := d } wx HQ.out hdb ht' hw)
            clear HF HS HR HD
            go_upto_region 14 with fail
            generalize putRowAt w4 b 2 (.agg q.arr) = w5 at *
            have c5 := rep_had HP1.out
            have f5 := blk_frozen HP1.out 137
            have k1 := hid (rep_put_had HP1.out d)
            have k3 := hid (HP2.out.sc 137 (.int .i64 (d : Int)))
            go_wp2_with fail
            refine (HK.out _ (T.out.bx H.out k3.out) k1.out).mono ?_
            rintro e w6 ⟨rfl, r6⟩
            have R6 := hid r6
            clear r6 c5 f5
            go_wp2
            go_ret
            rw [HT.out, HX.out, HE.out]; simp only [if_true]
            exact ⟨rfl, ⟨R6.out.1, Bx.tr k3.out R6.out.2⟩⟩
          · have HE : Hid (dk = false) := by show _ = _; rw [HO'.out, decide_eq_false hle]; rfl
            have g1 : ((q.dots : Int) < (d : Int)) := by omega
            have g2 : (q.dots < d) := by omega
            go_wp2
            go_ret
            rw [HT.out, HX.out, HE.out]; simp only [Bool.false_eq_true, if_false]
            exact ⟨rfl, ⟨G4.out, B4.out.bx b⟩⟩
end Go.Proofs.YtalaldfgjgpacaaGreatDoor
