import Derived.Test.YtkeanpabacfdlaaGreatDoorW7
import Derived.BigRegion
import Derived.RegionTactic
import Derived.ChangeAlike
namespace Go.Proofs.YtkeanpabacfdlaaGreatDoor
set_option linter.unusedVariables false
set_option linter.unusedSimpArgs false
open Go.RowKit
attribute [local go_sem ↓] Go.wp_at_zero Go.wp_at_succ

set_option maxRecDepth 100000 in
set_option maxHeartbeats 400000 in
theorem withEntry_any (p : Pc) (r n : Nat) (c it v : Int) (w : World) (hr : r < 3) (hn : n < 9) (hc0 : 0 ≤ c) (hc1 : c < 3) (hi0 : 0 ≤ it) (hi1 : it < 4) (hv0 : -99 ≤ v) (hv1 : v ≤ 99) :
    Calls Tryz.prog 104 #[.agg p.arr, .int .i64 r, .int .i64 ((n : Int) + 1), .agg #[.int .i64 c, .int .i64 it, .int .i64 v]] w fun e w' => e = .returned (.agg (p.put r n ⟨true, true, c, it, v⟩).arr) ∧ Blw w w' := by
  obtain ⟨q, hq⟩ : ∃ q, q = p.put r n ⟨true, true, c, it, v⟩ := ⟨_, rfl⟩
  rw [← hq]
  have HQ := hid (show splice p.arr (r * 45 + n * 5) (Sl.cells ⟨true, true, c, it, v⟩) = q.arr by rw [hq]; exact Pc.splice_slot p r n hr hn _)
  have HI := hid (show (Tryz.prog.info? 97).map (·.size) = some q.arr.size by rw [size63, Pc.size])
  have HI' := hid (show (Tryz.prog.info? 97).map (·.size) = some q.cells.length by rw [size63, Pc.len])
  clear hq
  have hk0 : (0 : Int) ≤ (r : Int) := Int.natCast_nonneg _
  have hk3 : (r : Int) < 3 := by omega
  have hn0 : (0 : Int) ≤ (n : Int) := Int.natCast_nonneg _
  have hn9 : (n : Int) < 9 := by omega
  have q0 : p.arr[r * 45 + n * 5]? = some (.bool (p r n).known) := Pc.atRIK p r n 0 hr hn (by omega)
  have q1 : p.arr[r * 45 + n * 5 + 1]? = some (.bool (p r n).filled) := Pc.atRIK p r n 1 hr hn (by omega)
  have q2 : p.arr[r * 45 + n * 5 + 2]? = some (.int .i64 (p r n).cart) := Pc.atRIK p r n 2 hr hn (by omega)
  have q3 : p.arr[r * 45 + n * 5 + 3]? = some (.int .i64 (p r n).item) := Pc.atRIK p r n 3 hr hn (by omega)
  have q4 : p.arr[r * 45 + n * 5 + 4]? = some (.int .i64 (p r n).value) := Pc.atRIK p r n 4 hr hn (by omega)
  go_enter Tryz.func104, Tryz.ntmps104
  go_wp2_with fail
  refine (isDot_yes r (n + 1) _ hr (by omega) (by omega)).mono ?_
  rintro e w2 ⟨rfl, rfl⟩
  go_wp2_with fail
  refine (isEntry_yes c it v _ hc0 hc1 hi0 hi1 hv0 hv1).mono ?_
  rintro e w2 ⟨rfl, b2⟩
  have g0 : w2.heap[w.heap.size]? = some (.cells p.arr 97) := (b2.bk _ (by simp; omega)).trans (hp_old _ (by simp; omega) (hp_old _ (by simp) (hp_new _ _)))
  have g1 : w2.heap[w.heap.size + 1]? = some (.cells #[.int .i64 c, .int .i64 it, .int .i64 v] 91) := (b2.bk _ (by simp)).trans (hp_old _ (by simp) (by simpa using hp_new (w.alloc (.cells p.arr 97)) _))
  have g2 : w2.heap[w.heap.size + 1 + 1]? = some (.cells Tryz.zeroCells97 97) := (b2.bk _ (by simp)).trans (by simpa using hp_new ((w.alloc (.cells p.arr 97)).alloc (.cells #[.int .i64 c, .int .i64 it, .int .i64 v] 91)) _)
  have hbw : Blw w w2 := ((((Blw.rfl _).al _).al _).al _).tr b2
  have G := hid (And.intro g0 (And.intro g1 (And.intro g2 hbw)))
  obtain ⟨p0, p1, p2, p3, p4⟩ := cells5 g0 r n hr hn
  have f0 := blk_frozen g0 (r * 45 + n * 5)
  have f1 := blk_frozen g0 (r * 45 + n * 5 + 1)
  have f2 := blk_frozen g0 (r * 45 + n * 5 + 2)
  have f3 := blk_frozen g0 (r * 45 + n * 5 + 3)
  have f4 := blk_frozen g0 (r * 45 + n * 5 + 4)
  have e0 : w2.cell? ⟨w.heap.size + 1, 0, none⟩ = some (.int .i64 c) := blk_cell g1 0
  have e1 : w2.cell? ⟨w.heap.size + 1, 1, none⟩ = some (.int .i64 it) := blk_cell g1 1
  have e2 : w2.cell? ⟨w.heap.size + 1, 2, none⟩ = some (.int .i64 v) := blk_cell g1 2
  clear b2 g0 g1 g2 hbw
  have hwr : IntKind.i64.wrap (n : Int) = n := by rw [IntKind.wrap_i64]; omega
  go_upto_region 5 with fail
  go_region
  go_upto_region 6 with fail
  obtain ⟨w3, hw3⟩ : ∃ w3, w3 = w2.setCells w.heap.size (r * 45 + n * 5) (Sl.cells ⟨true, true, c, it, v⟩) := ⟨_, rfl⟩
  have hg : w3.drew.heap[w.heap.size]? = some (.cells q.arr 97) := by
    show w3.heap[w.heap.size]? = _
    rw [hw3, heap_setCells_self _ G.out.1, HQ.out]
  have hz : w3.drew.heap[w.heap.size + 1 + 1]? = some (.cells Tryz.zeroCells97 97) := by
    show w3.heap[w.heap.size + 1 + 1]? = _
    rw [hw3, heap_setCells_ne _ (by omega)]; exact G.out.2.2.1
  have hb3 : Blw w w3.drew := by rw [hw3]; exact (G.out.2.2.2.scs _ _ _ (by omega)).dr
  have hw4 : (((((w2.setCell ⟨w.heap.size, r * 45 + n * 5, none⟩ (.bool true)).setCell ⟨w.heap.size, r * 45 + n * 5 + 1, none⟩ (.bool true)).setCell ⟨w.heap.size, r * 45 + n * 5 + 2, none⟩ (.int .i64 c)).setCell ⟨w.heap.size, r * 45 + n * 5 + 3, none⟩ (.int .i64 it)).setCell ⟨w.heap.size, r * 45 + n * 5 + 4, none⟩ (.int .i64 v)) = w3 := by rw [hw3]; rfl
  rw [hw4]
  clear hw4 hw3 p0 p1 p2 p3 p4 f0 f1 f2 f3 f4 e0 e1 e2 q0 q1 q2 q3 q4
  go_wp2_with (first | (refine wpList_load_row (by rfl) 97 (.tmp 4) (by rfl) w.heap.size (by rfl) 97 q.arr (0, 0) _ hg Tryz.underlying97 rfl HI.out ?_) | (refine wpList_store_blk (by rfl) 97 (.tmp 8) (.tmp 26) (by rfl) (w.heap.size + 1 + 1) 0 q.cells (by rfl) (by rfl) Tryz.zeroCells97 97 hz (by rw [Pc.len, zsize63]; omega) HI'.out (Pc.one _) ?_))
  exact bodyPost_ret (results_cell_row rfl _ _ (w.heap.size + 1 + 1) 97 q.arr (0, 0) _ (by rfl) (hp_store q hz zsize63) Tryz.underlying97 rfl HI.out) rfl ⟨rfl, hb3.scs _ _ _ (by omega)⟩
end Go.Proofs.YtkeanpabacfdlaaGreatDoor
