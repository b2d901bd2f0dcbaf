import Derived.Test.YtalaldfgjgpacaaGreatDoorHAA
import Derived.Test.YtalaldfgjgpacaaGreatDoorHAB
import Derived.Test.YtalaldfgjgpacaaGreatDoorHAC
import Derived.Laws.BytesString
namespace Go.Proofs.YtalaldfgjgpacaaGreatDoor
set_option linter.unusedVariables false
set_option linter.unusedSimpArgs false
open Go.RowKit

theorem conv1 (n : Int) (w : World) : (convert 131 9 (.slice (some ⟨w.heap.size, 0, none⟩) 1 1)).run Tryz.prog (w.alloc (.cells #[.int .u8 n] 5)) = .ok (.string ⟨#[UInt8.ofNat n.toNat]⟩) (w.alloc (.cells #[.int .u8 n] 5)) := by
  rw [run_convert_bytes_string _ 131 9 5 _ _ _ Tryz.underlying131 Tryz.underlying5 Tryz.underlying9]
  rw [run_bytesToString _ _ _ _ [n]]
  · rfl
  · have := run_loadCells_list (P := Tryz.prog) (w.alloc (.cells #[.int .u8 n] 5)) ⟨w.heap.size, 0, none⟩ [.int .u8 n] (fun j v hv => by
      match j, hv with
      | 0, hv => simp at hv; subst hv; simp [Addr.add])
    simpa using this

set_option maxRecDepth 100000 in
set_option maxHeartbeats 400000 in
theorem cartLetter_any (c : Int) (w : World) (h0 : 0 ≤ c) (h3 : c < 3) :
    Calls Tryz.prog 155 #[.int .i64 c] w fun e w' => e = .returned (.string ⟨#[cartB c.toNat]⟩) ∧ Blw w w' := by
  have hcv := conv1
  have : c = 0 ∨ c = 1 ∨ c = 2 := by omega
  rcases this with rfl | rfl | rfl
  all_goals
    go_enter Tryz.func155, Tryz.ntmps155
    go_wp2
    go_ret
    exact ⟨rfl, (Blw.rfl _).al _⟩

set_option maxRecDepth 100000 in
set_option maxHeartbeats 400000 in
theorem itemLetter_any (c : Int) (w : World) (h0 : 0 ≤ c) (h3 : c < 4) :
    Calls Tryz.prog 146 #[.int .i64 c] w fun e w' => e = .returned (.string ⟨#[itemB c.toNat]⟩) ∧ Blw w w' := by
  have hcv := conv1
  have : c = 0 ∨ c = 1 ∨ c = 2 ∨ c = 3 := by omega
  rcases this with rfl | rfl | rfl | rfl
  all_goals
    go_enter Tryz.func146, Tryz.ntmps146
    go_wp2
    go_ret
    exact ⟨rfl, (Blw.rfl _).al _⟩

set_option maxHeartbeats 400000 in
theorem dotText_any (r n : Nat) (w : World) (hr : r < 10) (hn : n < 10) :
    Calls Tryz.prog 156 #[.int .i64 r, .int .i64 n] w fun e w' => e = .returned (.string ⟨#[dig (r), dig (n)]⟩) ∧ w' = w := by
  go_enter Tryz.func156, Tryz.ntmps156
  go_wp2_with fail
  refine (itoa_digit r hr _).mono ?_
  rintro e w' ⟨rfl, rfl⟩
  go_wp2_with fail
  refine (itoa_digit n hn _).mono ?_
  rintro e w' ⟨rfl, rfl⟩
  go_wp2
  go_ret
  exact ⟨ret_str (by simp only [ByteArray.mk_append_mk]; rfl), rfl⟩

set_option maxHeartbeats 400000 in
theorem valueText_any (v : Int) (w : World) (h0 : -99 ≤ v) (h1 : v ≤ 99) :
    Calls Tryz.prog 157 #[.int .i64 v] w fun e w' => e = .returned (.string ⟨(valL v).toArray⟩) ∧ w' = w := by
  obtain ⟨l, hl⟩ : ∃ l, l = valL v := ⟨_, rfl⟩
  rw [← hl]
  have HT := hid (fun d hd wx => two_any d wx hd)
  by_cases hneg : v < 0
  · obtain ⟨d, rfl⟩ : ∃ d : Nat, v = -(d : Int) := ⟨v.natAbs, by omega⟩
    have hd : d < 100 := by omega
    have hd0 : 0 < d := by omega
    have HL : Hid (l = [45, dig (d / 10), dig (d % 10)]) := by
      rw [hl, valL]; have : (-(d:Int)).natAbs = d := by omega
      rw [this, if_pos hneg]; rfl
    clear hl
    go_enter Tryz.func157, Tryz.ntmps157
    go_wp2_with fail
    refine (HT.out d hd _).mono ?_
    rintro e w' ⟨rfl, rfl⟩
    go_wp2
    go_ret
    rw [HL.out]
    exact ⟨ret_str (by simp only [ByteArray.mk_append_mk]; rfl), rfl⟩
  · obtain ⟨d, rfl⟩ : ∃ d : Nat, v = (d : Int) := ⟨v.natAbs, by omega⟩
    have hd : d < 100 := by omega
    have HL : Hid (l = [43, dig (d / 10), dig (d % 10)]) := by
      rw [hl, valL]; have : ((d:Int)).natAbs = d := by omega
      rw [this, if_neg hneg]; rfl
    clear hl
    go_enter Tryz.func157, Tryz.ntmps157
    go_wp2_with fail
    refine (HT.out d hd _).mono ?_
    rintro e w' ⟨rfl, rfl⟩
    go_wp2
    go_ret
    rw [HL.out]
    exact ⟨ret_str (by simp only [ByteArray.mk_append_mk]; rfl), rfl⟩
end Go.Proofs.YtalaldfgjgpacaaGreatDoor

namespace Go.Proofs.YtalaldfgjgpacaaGreatDoor
set_option linter.unusedVariables false
set_option linter.unusedSimpArgs false
open Go.RowKit
attribute [local go_sem ↓] Go.wp_at_zero Go.wp_at_succ

theorem joinSlots_cells (a b : Sl) (w : World) :
    Calls Tryz.prog 130 #[.agg #[.bool a.known, .bool a.filled, .int .i64 a.cart, .int .i64 a.item, .int .i64 a.value], .agg #[.bool b.known, .bool b.filled, .int .i64 b.cart, .int .i64 b.item, .int .i64 b.value]] w fun e w' => e = .returned (.agg (joinSl a b).cells.toArray) ∧ Blw w w' := joinSlots_any a b w


/-- The rounds of Join. -/
def JoinRel (p q : Pc) (w : World) (k m : Nat) (wr : World) : Prop :=
  wr.heap[w.heap.size]? = some (.cells p.arr 65) ∧ wr.heap[w.heap.size + 1]? = some (.cells q.arr 65) ∧ (∃ C, wr.heap[w.heap.size + 1 + 1]? = some (.cells C 65) ∧ C.size = 135) ∧ wr.heap[w.heap.size + 1 + 1 + 1]? = some (.cells (partly p q k m).arr 65) ∧ w.heap.size + 4 ≤ wr.heap.size ∧ Blw w wr

theorem JoinRel.start (p q : Pc) (w : World) : JoinRel p q w 0 0 ((((w.alloc (.cells p.arr 65)).alloc (.cells q.arr 65)).alloc (.cells Tryz.zeroCells65 65)).alloc (.cells Tryz.zeroCells65 65)) := by
  refine ⟨?_, ?_, ⟨Tryz.zeroCells65, ?_, ?_⟩, ?_, ?_, ((((Blw.rfl _).al _).al _).al _).al _⟩
  · exact hp_old _ (by simp; omega) (hp_old _ (by simp; omega) (hp_old _ (by simp) (hp_new _ _)))
  · exact hp_old _ (by simp) (hp_old _ (by simp) (by simpa using hp_new (w.alloc (.cells p.arr 65)) _))
  · exact hp_old _ (by simp) (by simpa using hp_new ((w.alloc (.cells p.arr 65)).alloc (.cells q.arr 65)) _)
  · rw [zero63, Pc.size]
  · rw [partly_none, ← zero63]; simpa using hp_new (((w.alloc (.cells p.arr 65)).alloc (.cells q.arr 65)).alloc (.cells Tryz.zeroCells65 65)) _
  · simp

theorem JoinRel.step {p q : Pc} {w : World} {k m : Nat} {wr w2 : World} (h : JoinRel p q w k m wr) (hk : k < 3) (hm : m < 9) (hb : Blw wr.drew w2) :
    JoinRel p q w k (m + 1) (w2.setCells (w.heap.size + 1 + 1 + 1) (k * 45 + m * 5) (joinSl (p k m) (q k m)).cells) := by
  obtain ⟨hP, hQ, ⟨C, hC, hC'⟩, hJ, hsz, hw⟩ := h
  have b0 := hb.bk w.heap.size (by simp; omega)
  have b1 := hb.bk (w.heap.size + 1) (by simp; omega)
  have b2 := hb.bk (w.heap.size + 1 + 1) (by simp; omega)
  have b3 := hb.bk (w.heap.size + 1 + 1 + 1) (by simp; omega)
  refine ⟨?_, ?_, ⟨C, ?_, hC'⟩, ?_, ?_, ?_⟩
  · rw [heap_setCells_ne _ (by omega)]; exact b0.trans hP
  · rw [heap_setCells_ne _ (by omega)]; exact b1.trans hQ
  · rw [heap_setCells_ne _ (by omega)]; exact b2.trans hC
  · rw [heap_setCells_self _ (b3.trans hJ), Pc.splice_slot _ _ _ hk hm, partly_put]
  · rw [size_setCells]; have := hb.sz; simp at this; omega
  · exact (hw.tr (Blw.tr (Blw.dr (Blw.rfl _)) hb)).scs _ _ _ (by omega)

set_option maxHeartbeats 1000000 in
theorem join_any (p q : Pc) (w : World) :
    Calls Tryz.prog 74 #[.agg p.arr, .agg q.arr] w fun e w' => e = .returned (.agg (p.join q).arr) ∧ Blw w w' := by
  go_enter Tryz.func74, Tryz.ntmps74
  go_wp2
  go_loopw [6] (fun r wr => ∃ k : Nat, k ≤ 3 ∧ r = .int .i64 k ∧ JoinRel p q w k 0 wr) (fun r _ => 3 - (intOf r).toNat)
  case atStart => exact ⟨0, by omega, rfl, JoinRel.start p q w⟩
  case round =>
    obtain ⟨k, hk, rfl, hJR⟩ := hrel
    by_cases hlt : k < 3
    · have hd : decide ((k : Int) < 3) = true := by simp; omega
      go_wp2
      go_loopw [7] (fun i wr => ∃ m : Nat, m ≤ 9 ∧ i = .int .i64 m ∧ JoinRel p q w k m wr) (fun i _ => 9 - (intOf i).toNat)
      case atStart => exact ⟨0, by omega, rfl, hJR⟩
      case round =>
        clear hJR
        obtain ⟨m, hm, rfl, hJR⟩ := hrel
        by_cases hlm : m < 9
        · have H := hid hJR
          obtain ⟨hP, hQ, hC, hJ, hsz, hb⟩ := hJR
          obtain ⟨p0, p1, p2, p3, p4⟩ := cells5 hP k m hlt hlm
          obtain ⟨q0, q1, q2, q3, q4⟩ := cells5 hQ k m hlt hlm
          have hk0 : (0 : Int) ≤ (k : Int) := Int.natCast_nonneg _
          have hk3 : (k : Int) < 3 := by omega
          have hm0 : (0 : Int) ≤ (m : Int) := Int.natCast_nonneg _
          have hm9 : (m : Int) < 9 := by omega
          have z0 : w.heap.size < wr.heap.size := by omega
          have z1 : w.heap.size + 1 < wr.heap.size := by omega
          have z3 : w.heap.size + 1 + 1 + 1 < wr.heap.size := by omega
          have ho : k * 45 + m * 5 + (joinSl (p k m) (q k m)).cells.length ≤ (partly p q k m).arr.size := by rw [Pc.size]; show _ + 5 ≤ _; omega
          have HO := hid ho
          clear hP hQ hC hJ hsz hb ho
          go_wp2_with fail
          go_region_held3 (fun w' => (w'.cell? ⟨w.heap.size, k * 45 + m * 5, none⟩ = some (.bool (p k m).known) ∧ w'.cell? ⟨w.heap.size, k * 45 + m * 5 + 1, none⟩ = some (.bool (p k m).filled) ∧ w'.cell? ⟨w.heap.size, k * 45 + m * 5 + 2, none⟩ = some (.int .i64 (p k m).cart) ∧ w'.cell? ⟨w.heap.size, k * 45 + m * 5 + 3, none⟩ = some (.int .i64 (p k m).item) ∧ w'.cell? ⟨w.heap.size, k * 45 + m * 5 + 4, none⟩ = some (.int .i64 (p k m).value)) ∧ (w'.cell? ⟨w.heap.size + 1, k * 45 + m * 5, none⟩ = some (.bool (q k m).known) ∧ w'.cell? ⟨w.heap.size + 1, k * 45 + m * 5 + 1, none⟩ = some (.bool (q k m).filled) ∧ w'.cell? ⟨w.heap.size + 1, k * 45 + m * 5 + 2, none⟩ = some (.int .i64 (q k m).cart) ∧ w'.cell? ⟨w.heap.size + 1, k * 45 + m * 5 + 3, none⟩ = some (.int .i64 (q k m).item) ∧ w'.cell? ⟨w.heap.size + 1, k * 45 + m * 5 + 4, none⟩ = some (.int .i64 (q k m).value))) (go_keep)
            (first | (go_at_call 130; refine (joinSlots_cells (p k m) (q k m) _).mono ?_; rintro e w2 ⟨rfl, hb2⟩; obtain ⟨p0', p1', p2', p3', p4'⟩ := cells5 ((Blw.bk hb2 _ z0).trans H.out.1) k m hlt hlm; obtain ⟨q0', q1', q2', q3', q4'⟩ := cells5 ((Blw.bk hb2 _ z1).trans H.out.2.1) k m hlt hlm; have hst := run_storeCells_blk (P := Tryz.prog) ((Blw.bk hb2 _ z3).trans H.out.2.2.2.1) (joinSl (p k m) (q k m)).cells HO.out (Sl.one _); have n0 := fun o' => cell_setCells_ne (w := w2) (b := w.heap.size + 1 + 1 + 1) (b' := w.heap.size) (o := k * 45 + m * 5) (joinSl (p k m) (q k m)).cells o' (by omega); have n1 := fun o' => cell_setCells_ne (w := w2) (b := w.heap.size + 1 + 1 + 1) (b' := w.heap.size + 1) (o := k * 45 + m * 5) (joinSl (p k m) (q k m)).cells o' (by omega)))
          go_wp2
          go_roundw
          case rel => exact ⟨m + 1, by omega, by go_num, JoinRel.step H.out hlt hlm ‹_›⟩
          case measure => simp [intOf]; omega
        · have hm9 : m = 9 := by omega
          subst hm9
          go_wp2
          go_roundw
          case rel => exact ⟨k + 1, by omega, by go_num, by unfold JoinRel at *; rw [← partly_row]; exact hJR⟩
          case measure => simp [intOf]; omega
    · have hk3 : k = 3 := by omega
      subst hk3
      obtain ⟨hP, hQ, ⟨C, hC, hC'⟩, hJ, hsz, hb⟩ := hJR
      rw [partly_all] at hJ
      have hi : (Tryz.prog.info? 65).map (·.size) = some (p.join q).arr.size := by rw [size63, Pc.size]
      have hi' : (Tryz.prog.info? 65).map (·.size) = some (p.join q).cells.length := by rw [size63, Pc.len]
      have HI := hid hi
      have HI' := hid hi'
      clear hi hi'
      go_wp2_with (first | (refine wpList_load_row (by rfl) 65 _ (by rfl) (w.heap.size + 1 + 1 + 1) (by rfl) 65 _ (0, 0) _ hJ Tryz.underlying65 rfl HI.out ?_) | (refine wpList_store_blk (by rfl) 65 _ _ (by rfl) (w.heap.size + 1 + 1) 0 (p.join q).cells (by rfl) (by rfl) C 65 hC (by rw [Pc.len]; omega) HI'.out (Pc.one _) ?_))
      have hfin : (wr.setCells (w.heap.size + 1 + 1) 0 (p.join q).cells).heap[w.heap.size + 1 + 1]? = some (.cells (p.join q).arr 65) := by
        rw [heap_setCells_self _ hC, splice_all _ _ (by rw [Pc.len]; omega)]; rfl
      exact bodyPost_ret (results_cell_row rfl _ _ (w.heap.size + 1 + 1) 65 (p.join q).arr (0, 0) _ (by rfl) hfin Tryz.underlying65 rfl HI.out) rfl ⟨rfl, hb.scs _ _ _ (by omega)⟩
end Go.Proofs.YtalaldfgjgpacaaGreatDoor

namespace Go.Proofs.YtalaldfgjgpacaaGreatDoor
set_option linter.unusedVariables false
set_option linter.unusedSimpArgs false
open Go.RowKit

/-- A replica's row on its way: what is remembered, and what stands behind it, told apart. -/
def recsF (f : Nat → Pc) : List Value := (f 0).cells ++ ((f 1).cells ++ ((f 2).cells ++ (f 3).cells))
def repArrF (me n : Nat) (p : Pc) (x : Ext) (f : Nat → Pc) (t : List Value) : Array Value := ((([Value.int .i64 (me : Int), Value.int .i64 (n : Int)] ++ p.cells)) ++ (([Value.int .i64 (x.had : Int), Value.string ⟨x.log.toArray⟩]) ++ (recsF f ++ t)) : List Value).toArray
theorem repF (me n : Nat) (p : Pc) (x : Ext) : repArr me n p x = repArrF me n p x x.lat x.tail := rfl

theorem recsF_len (f : Nat → Pc) : (recsF f).length = 540 := by simp [recsF, Pc.len]
theorem repF_size (me n : Nat) (p : Pc) (x : Ext) (f : Nat → Pc) (t : List Value) : (repArrF me n p x f t).size = 679 + t.length := by
  simp [repArrF, recsF_len, Pc.len]; omega
theorem recsF_at (f : Nat → Pc) (k j : Nat) (hk : k < 4) (hj : j < 135) : (recsF f)[k * 135 + j]? = (f k).cells[j]? := by
  have l : ∀ i, (f i).cells.length = 135 := fun i => Pc.len _
  unfold recsF
  match k, hk with
  | 0, _ => rw [List.getElem?_append_left (by rw [l]; omega)]; simp
  | 1, _ => rw [List.getElem?_append_right (by rw [l]; omega), List.getElem?_append_left (by rw [l, l]; omega), l, show 1 * 135 + j - 135 = j by omega]
  | 2, _ => rw [List.getElem?_append_right (by rw [l]; omega), List.getElem?_append_right (by rw [l, l]; omega), List.getElem?_append_left (by rw [l, l, l]; omega), l, l, show 2 * 135 + j - 135 - 135 = j by omega]
  | 3, _ => rw [List.getElem?_append_right (by rw [l]; omega), List.getElem?_append_right (by rw [l, l]; omega), List.getElem?_append_right (by rw [l, l, l]; omega), l, l, l, show 3 * 135 + j - 135 - 135 - 135 = j by omega]
theorem repF_lo (me n : Nat) (p : Pc) (x : Ext) (f : Nat → Pc) (t : List Value) (j : Nat) (h : j < 139) : (repArrF me n p x f t)[j]? = (([Value.int .i64 (me : Int), Value.int .i64 (n : Int)] ++ p.cells) ++ [Value.int .i64 (x.had : Int), Value.string ⟨x.log.toArray⟩])[j]? := by
  unfold repArrF
  rw [List.getElem?_toArray, ← List.append_assoc, List.getElem?_append_left (by simp [Pc.len]; omega)]
theorem repF_rec (me n : Nat) (p : Pc) (x : Ext) (f : Nat → Pc) (t : List Value) (k j : Nat) (hk : k < 4) (hj : j < 135) : (repArrF me n p x f t)[139 + k * 135 + j]? = (f k).cells[j]? := by
  have e1 : (([Value.int .i64 (me : Int), Value.int .i64 (n : Int)] ++ p.cells) ++ [Value.int .i64 (x.had : Int), Value.string ⟨x.log.toArray⟩]).length = 139 := by simp [Pc.len]
  unfold repArrF
  rw [List.getElem?_toArray, ← List.append_assoc, List.getElem?_append_right (by rw [e1]; omega), e1, show 139 + k * 135 + j - 139 = k * 135 + j by omega, List.getElem?_append_left (by rw [recsF_len]; omega), recsF_at _ _ _ hk hj]
theorem repF_tail (me n : Nat) (p : Pc) (x : Ext) (f : Nat → Pc) (t : List Value) (k : Nat) : (repArrF me n p x f t)[679 + k]? = t[k]? := by
  have e1 : (([Value.int .i64 (me : Int), Value.int .i64 (n : Int)] ++ p.cells) ++ [Value.int .i64 (x.had : Int), Value.string ⟨x.log.toArray⟩]).length = 139 := by simp [Pc.len]
  unfold repArrF
  rw [List.getElem?_toArray, ← List.append_assoc, List.getElem?_append_right (by rw [e1]; omega), e1, show 679 + k - 139 = 540 + k by omega, List.getElem?_append_right (by rw [recsF_len]; omega), recsF_len, show 540 + k - 540 = k by omega]

/-- One of what is remembered, written over. -/
theorem repF_put (me n : Nat) (p : Pc) (x : Ext) (f : Nat → Pc) (t : List Value) (k : Nat) (hk : k < 4) (q : Pc) : splice (repArrF me n p x f t) (139 + k * 135) q.cells = repArrF me n p x (fun j => if j = k then q else f j) t := by
  refine Array.ext_getElem? fun j => ?_
  rw [splice_at _ _ _ _ (by rw [repF_size, Pc.len]; omega), Pc.len]
  by_cases h1 : j < 139
  · rw [if_neg (by omega), repF_lo _ _ _ _ _ _ _ h1, repF_lo _ _ _ _ _ _ _ h1]
  · by_cases h2 : j < 679
    · obtain ⟨i, m, hi, hm, rfl⟩ : ∃ i m, i < 4 ∧ m < 135 ∧ j = 139 + i * 135 + m := ⟨(j - 139) / 135, (j - 139) % 135, by omega, by omega, by omega⟩
      rw [repF_rec _ _ _ _ (fun j => if j = k then q else f j) _ _ _ hi hm]
      by_cases e : i = k
      · subst e
        rw [if_pos (by omega), show 139 + i * 135 + m - (139 + i * 135) = m by omega]; simp
      · rw [if_neg (by omega), repF_rec _ _ _ _ _ _ _ _ hi hm]; simp [e]
    · obtain ⟨i, rfl⟩ : ∃ i, j = 679 + i := ⟨j - 679, by omega⟩
      rw [if_neg (by omega), repF_tail, repF_tail]
/-- One of what stands behind, written over. -/
theorem repF_set (me n : Nat) (p : Pc) (x : Ext) (f : Nat → Pc) (t : List Value) (k : Nat) (v : Value) (hk : k < t.length) : (repArrF me n p x f t).setIfInBounds (679 + k) v = repArrF me n p x f (t.set k v) := by
  refine Array.ext_getElem? fun j => ?_
  rw [Array.getElem?_setIfInBounds]
  by_cases h1 : j < 139
  · rw [if_neg (by omega), repF_lo _ _ _ _ _ _ _ h1, repF_lo _ _ _ _ _ _ _ h1]
  · by_cases h2 : j < 679
    · obtain ⟨i, m, hi, hm, rfl⟩ : ∃ i m, i < 4 ∧ m < 135 ∧ j = 139 + i * 135 + m := ⟨(j - 139) / 135, (j - 139) % 135, by omega, by omega, by omega⟩
      rw [if_neg (by omega), repF_rec _ _ _ _ _ _ _ _ hi hm, repF_rec _ _ _ _ _ _ _ _ hi hm]
    · obtain ⟨i, rfl⟩ : ∃ i, j = 679 + i := ⟨j - 679, by omega⟩
      by_cases e : k = i
      · subst e
        rw [if_pos rfl, if_pos (by rw [repF_size]; omega), repF_tail, List.getElem?_set_self hk]
      · rw [if_neg (by omega), repF_tail, repF_tail, List.getElem?_set_ne e]

theorem rowOf_repF {w : World} {b me n : Nat} {p : Pc} {x : Ext} {f : Nat → Pc} {tl : List Value} {t : TypeId} (h : w.heap[b]? = some (.cells (repArrF me n p x f tl) t)) (k : Nat) (hk : k < 4) : rowOf w b (139 + k * 135) = (f k).arr := by
  have : ((List.range 135).map fun j => (w.cell? ⟨b, 139 + k * 135 + j, none⟩).getD undef) = (f k).cells := by
    refine List.ext_getElem? fun j => ?_
    by_cases hj : j < 135
    · rw [List.getElem?_map, List.getElem?_range hj, Option.map_some, blk_cell h, repF_rec _ _ _ _ _ _ _ _ hk hj, List.getElem?_eq_getElem (by rw [Pc.len]; exact hj)]; rfl
    · rw [List.getElem?_eq_none (by simp; omega), List.getElem?_eq_none (by rw [Pc.len]; omega)]
  unfold rowOf Pc.arr; rw [this]
theorem Has_repF {w : World} {b me n : Nat} {p : Pc} {x : Ext} {f : Nat → Pc} {tl : List Value} {t : TypeId} (h : w.heap[b]? = some (.cells (repArrF me n p x f tl) t)) (k : Nat) (hk : k < 4) : Has w b (139 + k * 135) := Has_of h (by rw [repF_size]; omega)
theorem HasW_repF {w : World} {b me n : Nat} {p : Pc} {x : Ext} {f : Nat → Pc} {tl : List Value} {t : TypeId} (h : w.heap[b]? = some (.cells (repArrF me n p x f tl) t)) (k : Nat) (hk : k < 4) : HasW w b (139 + k * 135) := HasW_of h (by rw [repF_size]; omega)
theorem put_repF {w : World} {b me n : Nat} {p q : Pc} {x : Ext} {f : Nat → Pc} {tl : List Value} {t : TypeId} (h : w.heap[b]? = some (.cells (repArrF me n p x f tl) t)) (k : Nat) (hk : k < 4) : (putRowAt w b (139 + k * 135) (.agg q.arr)).heap[b]? = some (.cells (repArrF me n p x (fun j => if j = k then q else f j) tl) t) := by
  show (w.setCells b (139 + k * 135) (q.arr.toList)).heap[b]? = _
  rw [show q.arr.toList = q.cells from by simp [Pc.arr], heap_setCells_self _ h, repF_put _ _ _ _ _ _ _ hk]
/-- What is remembered, moved up from a place on. -/
def shiftF (f : Nat → Pc) (k : Nat) : Nat → Pc := fun j => if j ≤ k then f j else f (j - 1)
theorem repF_congr (me n : Nat) (p : Pc) (x : Ext) (f g : Nat → Pc) (t : List Value) (h : ∀ j, j < 4 → f j = g j) : repArrF me n p x f t = repArrF me n p x g t := by
  unfold repArrF recsF
  rw [h 0 (by omega), h 1 (by omega), h 2 (by omega), h 3 (by omega)]
theorem repF_x (me n : Nat) (p : Pc) (x y : Ext) (f : Nat → Pc) (t : List Value) (h1 : x.had = y.had) (h2 : x.log = y.log) : repArrF me n p x f t = repArrF me n p y f t := by
  unfold repArrF; rw [h1, h2]
theorem shift_all (f : Nat → Pc) (j : Nat) (h : j < 4) : shiftF f 3 j = f j := by unfold shiftF; rw [if_pos (by omega)]
theorem shift_step (f : Nat → Pc) (k j : Nat) : (if j = k + 1 then f k else shiftF f (k + 1) j) = shiftF f k j := by
  unfold shiftF
  by_cases h : j = k + 1
  · subst h; rw [if_pos rfl, if_neg (by omega)]; rfl
  · rw [if_neg h]
    by_cases h2 : j ≤ k
    · rw [if_pos (by omega), if_pos h2]
    · rw [if_neg (by omega), if_neg h2]
theorem shift_at (f : Nat → Pc) (k : Nat) : shiftF f (k + 1) k = f k := by unfold shiftF; rw [if_pos (by omega)]
theorem shift_end (x : Ext) (q : Pc) (j : Nat) : (if j = 0 then q else shiftF x.lat 0 j) = ({ x with late := q :: x.late } : Ext).lat j := by
  cases j with
  | zero => rfl
  | succ j => simp [shiftF, Ext.lat]
end Go.Proofs.YtalaldfgjgpacaaGreatDoor

namespace Go.Proofs.YtalaldfgjgpacaaGreatDoor
set_option linter.unusedVariables false
set_option linter.unusedSimpArgs false

def Pc.noHole (p : Pc) : Prop := ∀ r i, r < 3 → i + 1 < 9 → (p r (i + 1)).known = true → (p r i).known = true

theorem cnt_full (kn : Nat → Bool) (n : Nat) (h : ∀ i, i < n → kn i = true) : cnt kn n = n := by
  induction n with
  | zero => rfl
  | succ n ih => rw [cnt, ih (fun i hi => h i (by omega)), h n (by omega)]; simp

theorem nohole_cnt (kn : Nat → Bool) (N : Nat) (h : ∀ i, i + 1 < N → kn (i + 1) = true → kn i = true) : ∀ n, n ≤ N → ∀ i, i < n → kn i = decide (i < cnt kn n) := by
  have down : ∀ j i, j < N → kn j = true → i ≤ j → kn i = true := by
    intro j
    induction j with
    | zero => intro i _ hk hi; have : i = 0 := by omega
              subst this; exact hk
    | succ j ih =>
      intro i hj hk hi
      by_cases e : i = j + 1
      · subst e; exact hk
      · exact ih i (by omega) (h j hj hk) (by omega)
  intro n
  induction n with
  | zero => intro _ i hi; omega
  | succ n ih =>
    intro hn i hi
    rw [cnt]
    cases hk : kn n with
    | true =>
      rw [cnt_full kn n (fun j hj => down n j (by omega) hk (by omega))]
      rw [down n i (by omega) hk (by omega)]
      simp; omega
    | false =>
      simp only [Bool.false_eq_true, if_false, Nat.add_zero]
      by_cases e : i = n
      · subst e; rw [hk]; have := cnt_le kn i; simp; omega
      · exact ih (by omega) i (by omega)

theorem Pc.noHole.at {p : Pc} (h : p.noHole) {r i : Nat} (hr : r < 3) (hi : i < 9) : (p r i).known = decide (i < p.count (r : Int)) := by
  have := nohole_cnt (fun i => (p r i).known) 9 (fun i hi => h r i hr hi) 9 (by omega) i hi
  rw [Pc.count, if_pos (by omega)]
  simpa using this

theorem noHole_empty : Pc.empty.noHole := by intro r i _ _ h; simp [Pc.empty, Sl.zero] at h
theorem fine_empty : Pc.empty.fine := ⟨fun r i _ _ h => by simp [Pc.empty, Sl.zero] at h, fun r i _ _ _ => by simp [Pc.empty, Sl.zero]⟩

/-- The delta of an event: what it takes away, and its own slot. -/
theorem rel_delta {p : Pc} {D E : List Bs} (h : RelP p D E) (hp : p.fine) (me k : Nat) (hme : me < 3) (hk : k < 9) (hnk : (p me k).known = false) (T : Sl → Bool) (hT : ∀ s, T s = true → s.filled = true)
    (T' : Bs → Bool) (hTT : ∀ r i, r < 3 → i < 9 → (p r i).filled = true → T' ((p r i).text r (i + 1)) = T (p r i)) (q : Pc) (hq : ∀ r i, r < 3 → i < 9 → q r i = if T (p r i) then Sl.dot else Sl.zero)
    (s : Sl) (hs : s.known = true) (hg : s.filled = true → s.good) (hc : s.filled = false → s.cart = 0 ∧ s.item = 0 ∧ s.value = 0) :
    RelP (q.put me k s) (insAll dotOf T' [dotT me k] E) (if s.filled then [s.text me (k + 1)] else []) ∧ (q.put me k s).fine ∧
      (p.noHole → k = p.count (me : Int) → (p.join (q.put me k s)).noHole) := by
  have hqk : ∀ r i, r < 3 → i < 9 → (q r i).known = T (p r i) ∧ (q r i).filled = false := by
    intro r i hr hi
    rw [hq r i hr hi]
    cases T (p r i) <;> simp [Sl.dot, Sl.zero]
  have hTk : ∀ r i, r < 3 → i < 9 → T (p r i) = true → (p r i).known = true := fun r i hr hi ht => (hp.ok r i hr hi (hT _ ht)).1
  refine ⟨⟨?_, ?_, ?_, ?_⟩, ⟨?_, ?_⟩, ?_⟩
  · refine srt_insAll _ _ _ _ (by simp [Srt]) ?_ ?_
    · intro e he hce hm
      obtain ⟨r, i, hr, hi, hf, rfl⟩ := (h.me _).1 he
      rw [text_dot] at hm
      obtain ⟨rfl, rfl⟩ := dotT_inj (List.mem_singleton.1 hm) hr hi hme hk
      rw [(hp.ok r i hr hi hf).1] at hnk; cases hnk
    · exact (h.ents_dots hp.ok).imp (fun {a b} hab _ _ => hab)
  · intro x
    rw [mem_insAll]
    constructor
    · rintro (hx | ⟨e, he, hce, rfl⟩)
      · exact ⟨me, k, hme, hk, by simp [Pc.put, hs], List.mem_singleton.1 hx⟩
      · obtain ⟨r, i, hr, hi, hf, rfl⟩ := (h.me _).1 he
        rw [hTT r i hr hi hf] at hce
        refine ⟨r, i, hr, hi, ?_, rfl⟩
        unfold Pc.put
        split
        · exact hs
        · rw [(hqk r i hr hi).1]; exact hce
    · rintro ⟨r, i, hr, hi, hkn, rfl⟩
      unfold Pc.put at hkn
      split at hkn
      · rename_i e; obtain ⟨rfl, rfl⟩ := e; left; simp
      · rw [(hqk r i hr hi).1] at hkn
        right
        exact ⟨_, (h.me _).2 ⟨r, i, hr, hi, hT _ hkn, rfl⟩, by rw [hTT r i hr hi (hT _ hkn)]; exact hkn, rfl⟩
  · split <;> simp [Srt]
  · intro x
    constructor
    · intro hx
      split at hx
      · rename_i hf
        refine ⟨me, k, hme, hk, by simp [Pc.put, hf], ?_⟩
        rw [List.mem_singleton.1 hx]; simp [Pc.put]
      · simp at hx
    · rintro ⟨r, i, hr, hi, hf, rfl⟩
      unfold Pc.put at hf ⊢
      split at hf
      · rename_i e
        obtain ⟨rfl, rfl⟩ := e
        simp [hf]
      · rw [(hqk r i hr hi).2] at hf; cases hf
  · intro r i hr hi hf
    unfold Pc.put at hf ⊢
    split at hf
    · rename_i e
      simp only [e, and_self, if_true]
      obtain ⟨a, b, c, d, e', f⟩ := hg hf
      exact ⟨hs, a, b, c, d, e', f⟩
    · rw [(hqk r i hr hi).2] at hf; cases hf
  · intro r i hr hi hf
    unfold Pc.put at hf ⊢
    split at hf
    · rename_i e
      simp only [e, and_self, if_true]
      exact hc hf
    · rename_i e
      simp only [e, if_false]
      rw [hq r i hr hi]
      cases T (p r i) <;> simp [Sl.dot, Sl.zero]
  · intro hnh hkc r i hr hi
    simp only [Pc.join, joinSl_known]
    have hpi := hnh.at hr (show i < 9 by omega)
    have hpi1 := hnh.at hr hi
    have hd : ∀ j, j < 9 → ((q.put me k s) r j).known = true → (p r j).known = true ∨ (r = me ∧ j = k) := by
      intro j hj hkn
      unfold Pc.put at hkn
      split at hkn
      · rename_i e; exact .inr e
      · rw [(hqk r j hr hj).1] at hkn
        exact .inl (hTk r j hr hj hkn)
    intro hor
    have hlt : i + 1 ≤ p.count (r : Int) := by
      rcases Bool.or_eq_true_iff.1 hor with h1 | h1
      · rw [hpi1] at h1; simp at h1; omega
      · rcases hd _ hi h1 with h2 | ⟨rfl, h2⟩
        · rw [hpi1] at h2; simp at h2; omega
        · omega
    rw [hpi]; simp; left; omega

end Go.Proofs.YtalaldfgjgpacaaGreatDoor

namespace Go.Proofs.YtalaldfgjgpacaaGreatDoor
set_option linter.unusedVariables false
set_option linter.unusedSimpArgs false
open Go.RowKit

theorem isOf_cells (s : Sl) (c it : Int) (w : World) :
    Calls Tryz.prog 134 #[.agg #[.bool s.known, .bool s.filled, .int .i64 s.cart, .int .i64 s.item, .int .i64 s.value], .int .i64 c, .int .i64 it] w fun e w' => e = .returned (.bool (s.isOf c it)) ∧ Blw w w' :=
  (isOf_any s c it w).mono fun _ _ h => ⟨h.1, by rw [h.2]; exact (Blw.rfl _).al _⟩

/-- The rounds of Sum, of the texts: the piece lies in its block. -/
def HasPc (p : Pc) (w wr : World) : Prop := wr.heap[w.heap.size]? = some (.cells p.arr 65) ∧ w.heap.size < wr.heap.size ∧ Blw w wr

theorem HasPc.start (p : Pc) (w : World) : HasPc p w (w.alloc (.cells p.arr 65)) := ⟨hp_new _ _, by simp, (Blw.rfl _).al _⟩
theorem HasPc.on {p : Pc} {w wr w2 : World} (h : HasPc p w wr) (hb : Blw wr w2) : HasPc p w w2 := ⟨(hb.bk _ h.2.1).trans h.1, Nat.lt_of_lt_of_le h.2.1 hb.sz, h.2.2.tr hb⟩

set_option maxHeartbeats 1000000 in
theorem sum_any (p : Pc) (hp : p.ok) (c it : Int) (w : World) :
    Calls Tryz.prog 145 #[.agg p.arr, .int .i64 c, .int .i64 it] w fun e w' => e = .returned (.tuple #[.int .i64 (p.sumTo c it 27), .bool (p.anyTo c it 27)]) ∧ Blw w w' := by
  have HP := hid hp
  clear hp
  go_enter Tryz.func145, Tryz.ntmps145
  go_wp2
  go_loopw [8, 9, 10] (fun s f r wr => ∃ k : Nat, k ≤ 3 ∧ r = .int .i64 k ∧ s = .int .i64 (p.sumTo c it (k * 9)) ∧ f = .bool (p.anyTo c it (k * 9)) ∧ HasPc p w wr) (fun _ _ r _ => 3 - (intOf r).toNat)
  case atStart => exact ⟨0, by omega, rfl, rfl, rfl, HasPc.start p w⟩
  case round =>
    obtain ⟨k, hk, rfl, rfl, rfl, hJR⟩ := hrel
    by_cases hlt : k < 3
    · have hd : decide ((k : Int) < 3) = true := by simp; omega
      go_wp2
      go_loopw [8, 9, 11] (fun s f i wr => ∃ m : Nat, m ≤ 9 ∧ i = .int .i64 m ∧ s = .int .i64 (p.sumTo c it (k * 9 + m)) ∧ f = .bool (p.anyTo c it (k * 9 + m)) ∧ HasPc p w wr) (fun _ _ i _ => 9 - (intOf i).toNat)
      case atStart => exact ⟨0, by omega, rfl, rfl, rfl, hJR⟩
      case round =>
        clear hJR
        obtain ⟨m, hm, rfl, rfl, rfl, hJR⟩ := hrel
        by_cases hlm : m < 9
        · have H := hid hJR
          have hb1 := sumTo_bd p HP.out c it (k * 9 + m) (by omega)
          have hb2 := sumTo_bd p HP.out c it (k * 9 + m + 1) (by omega)
          have HS : Hid (p.sumTo c it (k * 9 + (m + 1)) = p.sumTo c it (k * 9 + m) + (if (p k m).isOf c it then (p k m).value else 0)) := by
            show p.sumTo c it (k * 9 + m + 1) = _
            rw [Pc.sumTo, Pc.nth_ri _ _ _ hlm]
          have HA : Hid (p.anyTo c it (k * 9 + (m + 1)) = (p.anyTo c it (k * 9 + m) || (p k m).isOf c it)) := by
            show p.anyTo c it (k * 9 + m + 1) = _
            rw [Pc.anyTo, Pc.nth_ri _ _ _ hlm]
          obtain ⟨p0, p1, p2, p3, p4⟩ := cells5 hJR.1 k m hlt hlm
          have hk0 : (0 : Int) ≤ (k : Int) := Int.natCast_nonneg _
          have hk3 : (k : Int) < 3 := by omega
          have hm0 : (0 : Int) ≤ (m : Int) := Int.natCast_nonneg _
          have hm9 : (m : Int) < 9 := by omega
          clear hJR
          go_wp2_with fail
          refine (isOf_cells (p k m) c it _).mono ?_
          rintro e w2 ⟨rfl, hb⟩
          have H2 := hid (H.out.on hb)
          cases hi : (p k m).isOf c it
          · clear hb
            go_wp2
            go_roundw
            case rel => exact ⟨m + 1, by omega, by go_num, by rw [HS.out, hi]; simp, by rw [HA.out, hi]; simp, H2.out⟩
            case measure => simp [intOf]; omega
          · obtain ⟨p0', p1', p2', p3', p4'⟩ := cells5 H2.out.1 k m hlt hlm
            have hv : -(99:Int) ≤ (p k m).value ∧ (p k m).value ≤ 99 := by
              have hf : (p k m).filled = true := by simp only [Sl.isOf, Bool.and_eq_true] at hi; exact hi.1
              have := HP.out k m hlt hlm hf; omega
            obtain ⟨hv0, hv1⟩ := hv
            obtain ⟨hb10, hb11⟩ := hb1
            clear hb hb2
            go_wp2
            go_roundw
            case rel => exact ⟨m + 1, by omega, by go_num, by rw [HS.out, hi]; simp, by rw [HA.out, hi]; simp, H2.out⟩
            case measure => simp [intOf]; omega
        · have hm9 : m = 9 := by omega
          subst hm9
          go_wp2
          go_roundw
          case rel => exact ⟨k + 1, by omega, by go_num, by rw [show (k + 1) * 9 = k * 9 + 9 by omega], by rw [show (k + 1) * 9 = k * 9 + 9 by omega], hJR⟩
          case measure => simp [intOf]; omega
    · have hk3 : k = 3 := by omega
      subst hk3
      go_wp2
      go_ret2
      exact ⟨rfl, hJR.2.2⟩

/-- The rounds of DotsOf. -/
def DotsRel (p : Pc) (c it : Int) (w : World) (n : Nat) (wr : World) : Prop :=
  wr.heap[w.heap.size]? = some (.cells p.arr 65) ∧ (∃ C, wr.heap[w.heap.size + 1]? = some (.cells C 65) ∧ C.size = 135) ∧ wr.heap[w.heap.size + 1 + 1]? = some (.cells (p.dotsTo c it n).arr 65) ∧ w.heap.size + 3 ≤ wr.heap.size ∧ Blw w wr

theorem DotsRel.start (p : Pc) (c it : Int) (w : World) : DotsRel p c it w 0 (((w.alloc (.cells p.arr 65)).alloc (.cells Tryz.zeroCells65 65)).alloc (.cells Tryz.zeroCells65 65)) := by
  refine ⟨?_, ⟨Tryz.zeroCells65, ?_, ?_⟩, ?_, ?_, (((Blw.rfl _).al _).al _).al _⟩
  · exact hp_old _ (by simp; omega) (hp_old _ (by simp) (hp_new _ _))
  · exact hp_old _ (by simp) (by simpa using hp_new (w.alloc (.cells p.arr 65)) _)
  · rw [zero63, Pc.size]
  · rw [dotsTo_zero, ← zero63]; simpa using hp_new ((w.alloc (.cells p.arr 65)).alloc (.cells Tryz.zeroCells65 65)) _
  · simp

theorem DotsRel.on {p : Pc} {c it : Int} {w : World} {n : Nat} {wr w2 : World} (h : DotsRel p c it w n wr) (hb : Blw wr w2) : DotsRel p c it w n w2 := by
  obtain ⟨hP, ⟨C, hC, hC'⟩, hJ, hsz, hw⟩ := h
  exact ⟨(hb.bk _ (by omega)).trans hP, ⟨C, (hb.bk _ (by omega)).trans hC, hC'⟩, (hb.bk _ (by omega)).trans hJ, by have := hb.sz; omega, hw.tr hb⟩

theorem DotsRel.no {p : Pc} {c it : Int} {w : World} {k m : Nat} {wr : World} (h : DotsRel p c it w (k * 9 + m) wr) (hm : m < 9) (hi : (p k m).isOf c it = false) : DotsRel p c it w (k * 9 + (m + 1)) wr := by
  obtain ⟨hP, hC, hJ, hsz, hw⟩ := h
  exact ⟨hP, hC, by rw [← dotsTo_not p c it k m hi hm]; exact hJ, hsz, hw⟩

theorem DotsRel.yes {p : Pc} {c it : Int} {w : World} {k m : Nat} {wr : World} (h : DotsRel p c it w (k * 9 + m) wr) (hk : k < 3) (hm : m < 9) (hi : (p k m).isOf c it = true) : DotsRel p c it w (k * 9 + (m + 1)) (wr.setCell ⟨w.heap.size + 1 + 1, k * 45 + m * 5, none⟩ (.bool true)) := by
  obtain ⟨hP, ⟨C, hC, hC'⟩, hJ, hsz, hw⟩ := h
  refine ⟨?_, ⟨C, ?_, hC'⟩, ?_, by simpa using hsz, hw.sc _ _ _ (by omega)⟩
  · rw [Below.heap_setCell _ _ _ _ (by simp; omega)]; exact hP
  · rw [Below.heap_setCell _ _ _ _ (by simp)]; exact hC
  · rw [heap_setCell_self hJ, dotsTo_yes p c it k m hi hm hk]

set_option maxHeartbeats 1000000 in
theorem dotsOf_any (p : Pc) (c it : Int) (w : World) :
    Calls Tryz.prog 94 #[.agg p.arr, .int .i64 c, .int .i64 it] w fun e w' => e = .returned (.agg (p.dotsOf c it).arr) ∧ Blw w w' := by
  go_enter Tryz.func94, Tryz.ntmps94
  go_wp2
  go_loopw [8] (fun r wr => ∃ k : Nat, k ≤ 3 ∧ r = .int .i64 k ∧ DotsRel p c it w (k * 9) wr) (fun r _ => 3 - (intOf r).toNat)
  case atStart => exact ⟨0, by omega, rfl, DotsRel.start p c it w⟩
  case round =>
    obtain ⟨k, hk, rfl, hJR⟩ := hrel
    by_cases hlt : k < 3
    · have hd : decide ((k : Int) < 3) = true := by simp; omega
      go_wp2
      go_loopw [9] (fun i wr => ∃ m : Nat, m ≤ 9 ∧ i = .int .i64 m ∧ DotsRel p c it w (k * 9 + m) wr) (fun i _ => 9 - (intOf i).toNat)
      case atStart => exact ⟨0, by omega, rfl, hJR⟩
      case round =>
        clear hJR
        obtain ⟨m, hm, rfl, hJR⟩ := hrel
        by_cases hlm : m < 9
        · have H := hid hJR
          obtain ⟨p0, p1, p2, p3, p4⟩ := cells5 hJR.1 k m hlt hlm
          have hk0 : (0 : Int) ≤ (k : Int) := Int.natCast_nonneg _
          have hk3 : (k : Int) < 3 := by omega
          have hm0 : (0 : Int) ≤ (m : Int) := Int.natCast_nonneg _
          have hm9 : (m : Int) < 9 := by omega
          clear hJR
          go_wp2_with fail
          refine (isOf_cells (p k m) c it _).mono ?_
          rintro e w2 ⟨rfl, hb⟩
          have H2 := hid (H.out.on hb)
          cases hi : (p k m).isOf c it
          · clear hb
            go_wp2
            go_roundw
            case rel => exact ⟨m + 1, by omega, by go_num, H2.out.no hlm hi⟩
            case measure => simp [intOf]; omega
          · obtain ⟨q0, -, -, -, -⟩ := cells5 H2.out.2.2.1 k m hlt hlm
            have jf := blk_frozen H2.out.2.2.1 (k * 45 + m * 5)
            clear hb
            go_wp2
            go_roundw
            case rel => exact ⟨m + 1, by omega, by go_num, H2.out.yes hlt hlm hi⟩
            case measure => simp [intOf]; omega
        · have hm9 : m = 9 := by omega
          subst hm9
          go_wp2
          go_roundw
          case rel => exact ⟨k + 1, by omega, by go_num, by rw [show (k + 1) * 9 = k * 9 + 9 by omega]; exact hJR⟩
          case measure => simp [intOf]; omega
    · have hk3 : k = 3 := by omega
      subst hk3
      obtain ⟨hP, ⟨C, hC, hC'⟩, hJ, hsz, hb⟩ := hJR
      rw [show 3 * 9 = 27 from rfl, dotsTo_all] at hJ
      have HI := hid (show (Tryz.prog.info? 65).map (·.size) = some (p.dotsOf c it).arr.size by rw [size63, Pc.size])
      have HI' := hid (show (Tryz.prog.info? 65).map (·.size) = some (p.dotsOf c it).cells.length by rw [size63, Pc.len])
      go_wp2_with (first | (refine wpList_load_row (by rfl) 65 _ (by rfl) (w.heap.size + 1 + 1) (by rfl) 65 _ (0, 0) _ hJ Tryz.underlying65 rfl HI.out ?_) | (refine wpList_store_blk (by rfl) 65 _ _ (by rfl) (w.heap.size + 1) 0 (p.dotsOf c it).cells (by rfl) (by rfl) C 65 hC (by rw [Pc.len]; omega) HI'.out (Pc.one _) ?_))
      have hfin : (wr.setCells (w.heap.size + 1) 0 (p.dotsOf c it).cells).heap[w.heap.size + 1]? = some (.cells (p.dotsOf c it).arr 65) := by
        rw [heap_setCells_self _ hC, splice_all _ _ (by rw [Pc.len]; omega)]; rfl
      exact bodyPost_ret (results_cell_row rfl _ _ (w.heap.size + 1) 65 (p.dotsOf c it).arr (0, 0) _ (by rfl) hfin Tryz.underlying65 rfl HI.out) rfl ⟨rfl, hb.scs _ _ _ (by omega)⟩
end Go.Proofs.YtalaldfgjgpacaaGreatDoor
