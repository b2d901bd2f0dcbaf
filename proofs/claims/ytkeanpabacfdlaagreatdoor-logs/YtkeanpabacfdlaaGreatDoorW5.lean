import Derived.Test.YtkeanpabacfdlaaGreatDoorW3
namespace Go.Proofs.YtkeanpabacfdlaaGreatDoor
set_option linter.unusedVariables false
set_option linter.unusedSimpArgs false
open Go.RowKit

theorem isOf_cells (s : Sl) (c it : Int) (w : World) :
    Calls Tryz.prog 109 #[.agg #[.bool s.known, .bool s.filled, .int .i64 s.cart, .int .i64 s.item, .int .i64 s.value], .int .i64 c, .int .i64 it] w fun e w' => e = .returned (.bool (s.isOf c it)) ∧ Blw w w' :=
  (isOf_any s c it w).mono fun _ _ h => ⟨h.1, by rw [h.2]; exact (Blw.rfl _).al _⟩

/-- The rounds of Sum, of the texts: the piece lies in its block. -/
def HasPc (p : Pc) (w wr : World) : Prop := wr.heap[w.heap.size]? = some (.cells p.arr 97) ∧ w.heap.size < wr.heap.size ∧ Blw w wr

theorem HasPc.start (p : Pc) (w : World) : HasPc p w (w.alloc (.cells p.arr 97)) := ⟨hp_new _ _, by simp, (Blw.rfl _).al _⟩
theorem HasPc.on {p : Pc} {w wr w2 : World} (h : HasPc p w wr) (hb : Blw wr w2) : HasPc p w w2 := ⟨(hb.bk _ h.2.1).trans h.1, Nat.lt_of_lt_of_le h.2.1 hb.sz, h.2.2.tr hb⟩

set_option maxHeartbeats 1000000 in
theorem sum_any (p : Pc) (hp : p.ok) (c it : Int) (w : World) :
    Calls Tryz.prog 114 #[.agg p.arr, .int .i64 c, .int .i64 it] w fun e w' => e = .returned (.tuple #[.int .i64 (p.sumTo c it 27), .bool (p.anyTo c it 27)]) ∧ Blw w w' := by
  have HP := hid hp
  clear hp
  go_enter Tryz.func114, Tryz.ntmps114
  go_wp2
  go_loopw [8, 9, 10] (fun s f r wr => ∃ k : Nat, k ≤ 3 ∧ r = .int .i64 k ∧ s = .int .i64 (p.sumTo c it (k * 9)) ∧ f = .bool (p.anyTo c it (k * 9)) ∧ HasPc p w wr) (fun _ _ r _ => 3 - (intOf r).toNat)
  case atStart => exact ⟨0, by omega, rfl, rfl, rfl, HasPc.start p w⟩
  case round =>
    obtain ⟨k, hk, rfl, rfl, rfl, hJR⟩ := hrel
    by_cases hlt : k < 3
    · have hd : decide ((k : Int) < 3) = true := by simp; omega
      go_wp2
      go_loopw [8, 9, 11] (fun s f i wr => ∃ m : Nat, m ≤ 9 ∧ i = .int .i64 m ∧ s = .int .i64 (p.sumTo c it (k * 9 + m)) ∧ f = .bool (p.anyTo c it (k * 9 + m)) ∧ HasPc p w wr) (fun _ _ i _ => 9 - (intOf i).toNat)
      case atStart => exact ⟨0, by omega, rfl, rfl, rfl, hJR⟩
      case round =>
        clear hJR
        obtain ⟨m, hm, rfl, rfl, rfl, hJR⟩ := hrel
        by_cases hlm : m < 9
        · have H := hid hJR
          have hb1 := sumTo_bd p HP.out c it (k * 9 + m) (by omega)
          have hb2 := sumTo_bd p HP.out c it (k * 9 + m + 1) (by omega)
          have HS : Hid (p.sumTo c it (k * 9 + (m + 1)) = p.sumTo c it (k * 9 + m) + (if (p k m).isOf c it then (p k m).value else 0)) := by
            show p.sumTo c it (k * 9 + m + 1) = _
            rw [Pc.sumTo, Pc.nth_ri _ _ _ hlm]
          have HA : Hid (p.anyTo c it (k * 9 + (m + 1)) = (p.anyTo c it (k * 9 + m) || (p k m).isOf c it)) := by
            show p.anyTo c it (k * 9 + m + 1) = _
            rw [Pc.anyTo, Pc.nth_ri _ _ _ hlm]
          obtain ⟨p0, p1, p2, p3, p4⟩ := cells5 hJR.1 k m hlt hlm
          have hk0 : (0 : Int) ≤ (k : Int) := Int.natCast_nonneg _
          have hk3 : (k : Int) < 3 := by omega
          have hm0 : (0 : Int) ≤ (m : Int) := Int.natCast_nonneg _
          have hm9 : (m : Int) < 9 := by omega
          clear hJR
          go_wp2_with fail
          refine (isOf_cells (p k m) c it _).mono ?_
          rintro e w2 ⟨rfl, hb⟩
          have H2 := hid (H.out.on hb)
          cases hi : (p k m).isOf c it
          · clear hb
            go_wp2
            go_roundw
            case rel => exact ⟨m + 1, by omega, by go_num, by rw [HS.out, hi]; simp, by rw [HA.out, hi]; simp, H2.out⟩
            case measure => simp [intOf]; omega
          · obtain ⟨p0', p1', p2', p3', p4'⟩ := cells5 H2.out.1 k m hlt hlm
            have hv : -(99:Int) ≤ (p k m).value ∧ (p k m).value ≤ 99 := by
              have hf : (p k m).filled = true := by simp only [Sl.isOf, Bool.and_eq_true] at hi; exact hi.1
              have := HP.out k m hlt hlm hf; omega
            obtain ⟨hv0, hv1⟩ := hv
            obtain ⟨hb10, hb11⟩ := hb1
            clear hb hb2
            go_wp2
            go_roundw
            case rel => exact ⟨m + 1, by omega, by go_num, by rw [HS.out, hi]; simp, by rw [HA.out, hi]; simp, H2.out⟩
            case measure => simp [intOf]; omega
        · have hm9 : m = 9 := by omega
          subst hm9
          go_wp2
          go_roundw
          case rel => exact ⟨k + 1, by omega, by go_num, by rw [show (k + 1) * 9 = k * 9 + 9 by omega], by rw [show (k + 1) * 9 = k * 9 + 9 by omega], hJR⟩
          case measure => simp [intOf]; omega
    · have hk3 : k = 3 := by omega
      subst hk3
      go_wp2
      go_ret2
      exact ⟨rfl, hJR.2.2⟩

/-- The rounds of DotsOf. -/
def DotsRel (p : Pc) (c it : Int) (w : World) (n : Nat) (wr : World) : Prop :=
  wr.heap[w.heap.size]? = some (.cells p.arr 97) ∧ (∃ C, wr.heap[w.heap.size + 1]? = some (.cells C 97) ∧ C.size = 135) ∧ wr.heap[w.heap.size + 1 + 1]? = some (.cells (p.dotsTo c it n).arr 97) ∧ w.heap.size + 3 ≤ wr.heap.size ∧ Blw w wr

theorem DotsRel.start (p : Pc) (c it : Int) (w : World) : DotsRel p c it w 0 (((w.alloc (.cells p.arr 97)).alloc (.cells Tryz.zeroCells97 97)).alloc (.cells Tryz.zeroCells97 97)) := by
  refine ⟨?_, ⟨Tryz.zeroCells97, ?_, ?_⟩, ?_, ?_, (((Blw.rfl _).al _).al _).al _⟩
  · exact hp_old _ (by simp; omega) (hp_old _ (by simp) (hp_new _ _))
  · exact hp_old _ (by simp) (by simpa using hp_new (w.alloc (.cells p.arr 97)) _)
  · rw [zero63, Pc.size]
  · rw [dotsTo_zero, ← zero63]; simpa using hp_new ((w.alloc (.cells p.arr 97)).alloc (.cells Tryz.zeroCells97 97)) _
  · simp

theorem DotsRel.on {p : Pc} {c it : Int} {w : World} {n : Nat} {wr w2 : World} (h : DotsRel p c it w n wr) (hb : Blw wr w2) : DotsRel p c it w n w2 := by
  obtain ⟨hP, ⟨C, hC, hC'⟩, hJ, hsz, hw⟩ := h
  exact ⟨(hb.bk _ (by omega)).trans hP, ⟨C, (hb.bk _ (by omega)).trans hC, hC'⟩, (hb.bk _ (by omega)).trans hJ, by have := hb.sz; omega, hw.tr hb⟩

theorem DotsRel.no {p : Pc} {c it : Int} {w : World} {k m : Nat} {wr : World} (h : DotsRel p c it w (k * 9 + m) wr) (hm : m < 9) (hi : (p k m).isOf c it = false) : DotsRel p c it w (k * 9 + (m + 1)) wr := by
  obtain ⟨hP, hC, hJ, hsz, hw⟩ := h
  exact ⟨hP, hC, by rw [← dotsTo_not p c it k m hi hm]; exact hJ, hsz, hw⟩

theorem DotsRel.yes {p : Pc} {c it : Int} {w : World} {k m : Nat} {wr : World} (h : DotsRel p c it w (k * 9 + m) wr) (hk : k < 3) (hm : m < 9) (hi : (p k m).isOf c it = true) : DotsRel p c it w (k * 9 + (m + 1)) (wr.setCell ⟨w.heap.size + 1 + 1, k * 45 + m * 5, none⟩ (.bool true)) := by
  obtain ⟨hP, ⟨C, hC, hC'⟩, hJ, hsz, hw⟩ := h
  refine ⟨?_, ⟨C, ?_, hC'⟩, ?_, by simpa using hsz, hw.sc _ _ _ (by omega)⟩
  · rw [Below.heap_setCell _ _ _ _ (by simp; omega)]; exact hP
  · rw [Below.heap_setCell _ _ _ _ (by simp)]; exact hC
  · rw [heap_setCell_self hJ, dotsTo_yes p c it k m hi hm hk]

set_option maxHeartbeats 1000000 in
theorem dotsOf_any (p : Pc) (c it : Int) (w : World) :
    Calls Tryz.prog 68 #[.agg p.arr, .int .i64 c, .int .i64 it] w fun e w' => e = .returned (.agg (p.dotsOf c it).arr) ∧ Blw w w' := by
  go_enter Tryz.func68, Tryz.ntmps68
  go_wp2
  go_loopw [8] (fun r wr => ∃ k : Nat, k ≤ 3 ∧ r = .int .i64 k ∧ DotsRel p c it w (k * 9) wr) (fun r _ => 3 - (intOf r).toNat)
  case atStart => exact ⟨0, by omega, rfl, DotsRel.start p c it w⟩
  case round =>
    obtain ⟨k, hk, rfl, hJR⟩ := hrel
    by_cases hlt : k < 3
    · have hd : decide ((k : Int) < 3) = true := by simp; omega
      go_wp2
      go_loopw [9] (fun i wr => ∃ m : Nat, m ≤ 9 ∧ i = .int .i64 m ∧ DotsRel p c it w (k * 9 + m) wr) (fun i _ => 9 - (intOf i).toNat)
      case atStart => exact ⟨0, by omega, rfl, hJR⟩
      case round =>
        clear hJR
        obtain ⟨m, hm, rfl, hJR⟩ := hrel
        by_cases hlm : m < 9
        · have H := hid hJR
          obtain ⟨p0, p1, p2, p3, p4⟩ := cells5 hJR.1 k m hlt hlm
          have hk0 : (0 : Int) ≤ (k : Int) := Int.natCast_nonneg _
          have hk3 : (k : Int) < 3 := by omega
          have hm0 : (0 : Int) ≤ (m : Int) := Int.natCast_nonneg _
          have hm9 : (m : Int) < 9 := by omega
          clear hJR
          go_wp2_with fail
          refine (isOf_cells (p k m) c it _).mono ?_
          rintro e w2 ⟨rfl, hb⟩
          have H2 := hid (H.out.on hb)
          cases hi : (p k m).isOf c it
          · clear hb
            go_wp2
            go_roundw
            case rel => exact ⟨m + 1, by omega, by go_num, H2.out.no hlm hi⟩
            case measure => simp [intOf]; omega
          · obtain ⟨q0, -, -, -, -⟩ := cells5 H2.out.2.2.1 k m hlt hlm
            have jf := blk_frozen H2.out.2.2.1 (k * 45 + m * 5)
            clear hb
            go_wp2
            go_roundw
            case rel => exact ⟨m + 1, by omega, by go_num, H2.out.yes hlt hlm hi⟩
            case measure => simp [intOf]; omega
        · have hm9 : m = 9 := by omega
          subst hm9
          go_wp2
          go_roundw
          case rel => exact ⟨k + 1, by omega, by go_num, by rw [show (k + 1) * 9 = k * 9 + 9 by omega]; exact hJR⟩
          case measure => simp [intOf]; omega
    · have hk3 : k = 3 := by omega
      subst hk3
      obtain ⟨hP, ⟨C, hC, hC'⟩, hJ, hsz, hb⟩ := hJR
      rw [show 3 * 9 = 27 from rfl, dotsTo_all] at hJ
      have HI := hid (show (Tryz.prog.info? 97).map (·.size) = some (p.dotsOf c it).arr.size by rw [size63, Pc.size])
      have HI' := hid (show (Tryz.prog.info? 97).map (·.size) = some (p.dotsOf c it).cells.length by rw [size63, Pc.len])
      go_wp2_with (first | (refine wpList_load_row (by rfl) 97 _ (by rfl) (w.heap.size + 1 + 1) (by rfl) 97 _ (0, 0) _ hJ Tryz.underlying97 rfl HI.out ?_) | (refine wpList_store_blk (by rfl) 97 _ _ (by rfl) (w.heap.size + 1) 0 (p.dotsOf c it).cells (by rfl) (by rfl) C 97 hC (by rw [Pc.len]; omega) HI'.out (Pc.one _) ?_))
      have hfin : (wr.setCells (w.heap.size + 1) 0 (p.dotsOf c it).cells).heap[w.heap.size + 1]? = some (.cells (p.dotsOf c it).arr 97) := by
        rw [heap_setCells_self _ hC, splice_all _ _ (by rw [Pc.len]; omega)]; rfl
      exact bodyPost_ret (results_cell_row rfl _ _ (w.heap.size + 1) 97 (p.dotsOf c it).arr (0, 0) _ (by rfl) hfin Tryz.underlying97 rfl HI.out) rfl ⟨rfl, hb.scs _ _ _ (by omega)⟩
end Go.Proofs.YtkeanpabacfdlaaGreatDoor
