import Derived.Test.YtalaldfgjgpacaaGreatDoorML
import Derived.Test.YtalaldfgjgpacaaGreatDoorRA
import Derived.Test.YtalaldfgjgpacaaGreatDoorWA
import Derived.Test.YtalaldfgjgpacaaGreatDoorProg
namespace Go.Proofs.YtalaldfgjgpacaaGreatDoor
set_option linter.unusedVariables false
set_option linter.unusedSimpArgs false
open Go.RowKit

set_option maxHeartbeats 400000 in
theorem count_any (p : Pc) (r : Int) (w : World) :
    Calls Tryz.prog 82 #[.agg p.arr, .int .i64 r] w fun e w' => e = .returned (.int .i64 (p.count r)) ∧ Blw w w' := by
  obtain ⟨n, hn⟩ : ∃ n, n = p.count r := ⟨_, rfl⟩
  rw [← hn]
  by_cases h0 : r < 0
  · have hn0 : n = 0 := by rw [hn, Pc.count, if_neg (by omega)]
    subst hn0; clear hn
    go_enter Tryz.func82, Tryz.ntmps82
    go_wp2
    go_ret
    exact ⟨rfl, (Blw.rfl _).al _⟩
  · by_cases h3 : 3 ≤ r
    · have hn0 : n = 0 := by rw [hn, Pc.count, if_neg (by omega)]
      subst hn0; clear hn
      go_enter Tryz.func82, Tryz.ntmps82
      go_wp2
      go_ret
      exact ⟨rfl, (Blw.rfl _).al _⟩
    · have hr0 : 0 ≤ r := by omega
      have hr3 : r < 3 := by omega
      obtain ⟨kn, hkn⟩ : ∃ kn : Nat → Bool, kn = fun i => (p r.toNat i).known := ⟨_, rfl⟩
      have hn9 : n = cnt kn 9 := by rw [hn, Pc.count, if_pos ⟨hr0, hr3⟩, hkn]
      subst hn9; clear hn h0 h3
      have hc : ∀ i : Nat, i < 9 → p.arr[r.toNat * 45 + i * 5]? = some (.bool (kn i)) := fun i hi => by
        have := Pc.atRIK p r.toNat i 0 (by omega) hi (by omega)
        rw [hkn]; simpa [Sl.cell] using this
      clear hkn
      generalize p.arr = cs at *
      go_enter Tryz.func82, Tryz.ntmps82
      go_wp2
      go_loop [5, 6] (fun n i => ∃ k : Nat, k ≤ 9 ∧ i = .int .i64 k ∧ n = .int .i64 (cnt kn k)) (fun _ i => 9 - (intOf i).toNat)
      case atStart => exact ⟨0, Nat.zero_le _, rfl, rfl⟩
      case round =>
        obtain ⟨k, hk, rfl, rfl⟩ := hrel
        have hle := cnt_le kn k
        by_cases hlt : k < 9
        · have hck := hc k hlt
          have HS : Hid (cnt kn (k + 1) = cnt kn k + if kn k then 1 else 0) := rfl
          clear hc
          cases hb : kn k
          · rw [hb] at hck
            go_wp2
            go_round
            case rel => exact ⟨k + 1, by omega, by go_num, by rw [HS.out, hb]; simp⟩
            case measure => simp [intOf]; omega
          · rw [hb] at hck
            go_wp2
            go_round
            case rel => exact ⟨k + 1, by omega, by go_num, by rw [HS.out, hb]; go_num⟩
            case measure => simp [intOf]; omega
        · have h9 : k = 9 := by omega
          subst h9
          go_wp2
          go_ret
          exact ⟨rfl, (Blw.rfl _).al _⟩
end Go.Proofs.YtalaldfgjgpacaaGreatDoor

namespace Go.Proofs.YtalaldfgjgpacaaGreatDoor
set_option linter.unusedVariables false
set_option linter.unusedSimpArgs false
open Go.RowKit
attribute [local go_sem ↓] Go.wp_at_zero Go.wp_at_succ

theorem joinSlots_cells (a b : Sl) (w : World) :
    Calls Tryz.prog 130 #[.agg #[.bool a.known, .bool a.filled, .int .i64 a.cart, .int .i64 a.item, .int .i64 a.value], .agg #[.bool b.known, .bool b.filled, .int .i64 b.cart, .int .i64 b.item, .int .i64 b.value]] w fun e w' => e = .returned (.agg (joinSl a b).cells.toArray) ∧ Blw w w' := joinSlots_any a b w


/-- The rounds of Join. -/
def JoinRel (p q : Pc) (w : World) (k m : Nat) (wr : World) : Prop :=
  wr.heap[w.heap.size]? = some (.cells p.arr 65) ∧ wr.heap[w.heap.size + 1]? = some (.cells q.arr 65) ∧ (∃ C, wr.heap[w.heap.size + 1 + 1]? = some (.cells C 65) ∧ C.size = 135) ∧ wr.heap[w.heap.size + 1 + 1 + 1]? = some (.cells (partly p q k m).arr 65) ∧ w.heap.size + 4 ≤ wr.heap.size ∧ Blw w wr

theorem JoinRel.start (p q : Pc) (w : World) : JoinRel p q w 0 0 ((((w.alloc (.cells p.arr 65)).alloc (.cells q.arr 65)).alloc (.cells Tryz.zeroCells65 65)).alloc (.cells Tryz.zeroCells65 65)) := by
  refine ⟨?_, ?_, ⟨Tryz.zeroCells65, ?_, ?_⟩, ?_, ?_, ((((Blw.rfl _).al _).al _).al _).al _⟩
  · exact hp_old _ (by simp; omega) (hp_old _ (by simp; omega) (hp_old _ (by simp) (hp_new _ _)))
  · exact hp_old _ (by simp) (hp_old _ (by simp) (by simpa using hp_new (w.alloc (.cells p.arr 65)) _))
  · exact hp_old _ (by simp) (by simpa using hp_new ((w.alloc (.cells p.arr 65)).alloc (.cells q.arr 65)) _)
  · rw [zero63, Pc.size]
  · rw [partly_none, ← zero63]; simpa using hp_new (((w.alloc (.cells p.arr 65)).alloc (.cells q.arr 65)).alloc (.cells Tryz.zeroCells65 65)) _
  · simp

theorem JoinRel.step {p q : Pc} {w : World} {k m : Nat} {wr w2 : World} (h : JoinRel p q w k m wr) (hk : k < 3) (hm : m < 9) (hb : Blw wr.drew w2) :
    JoinRel p q w k (m + 1) (w2.setCells (w.heap.size + 1 + 1 + 1) (k * 45 + m * 5) (joinSl (p k m) (q k m)).cells) := by
  obtain ⟨hP, hQ, ⟨C, hC, hC'⟩, hJ, hsz, hw⟩ := h
  have b0 := hb.bk w.heap.size (by simp; omega)
  have b1 := hb.bk (w.heap.size + 1) (by simp; omega)
  have b2 := hb.bk (w.heap.size + 1 + 1) (by simp; omega)
  have b3 := hb.bk (w.heap.size + 1 + 1 + 1) (by simp; omega)
  refine ⟨?_, ?_, ⟨C, ?_, hC'⟩, ?_, ?_, ?_⟩
  · rw [heap_setCells_ne _ (by omega)]; exact b0.trans hP
  · rw [heap_setCells_ne _ (by omega)]; exact b1.trans hQ
  · rw [heap_setCells_ne _ (by omega)]; exact b2.trans hC
  · rw [heap_setCells_self _ (b3.trans hJ), Pc.splice_slot _ _ _ hk hm, partly_put]
  · rw [size_setCells]; have := hb.sz; simp at this; omega
  · exact (hw.tr (Blw.tr (Blw.dr (Blw.rfl _)) hb)).scs _ _ _ (by omega)

set_option maxHeartbeats 1000000 in
theorem join_any (p q : Pc) (w : World) :
    Calls Tryz.prog 74 #[.agg p.arr, .agg q.arr] w fun e w' => e = .returned (.agg (p.join q).arr) ∧ Blw w w' := by
  go_enter Tryz.func74, Tryz.ntmps74
  go_wp2
  go_loopw [6] (fun r wr => ∃ k : Nat, k ≤ 3 ∧ r = .int .i64 k ∧ JoinRel p q w k 0 wr) (fun r _ => 3 - (intOf r).toNat)
  case atStart => exact ⟨0, by omega, rfl, JoinRel.start p q w⟩
  case round =>
    obtain ⟨k, hk, rfl, hJR⟩ := hrel
    by_cases hlt : k < 3
    · have hd : decide ((k : Int) < 3) = true := by simp; omega
      go_wp2
      go_loopw [7] (fun i wr => ∃ m : Nat, m ≤ 9 ∧ i = .int .i64 m ∧ JoinRel p q w k m wr) (fun i _ => 9 - (intOf i).toNat)
      case atStart => exact ⟨0, by omega, rfl, hJR⟩
      case round =>
        clear hJR
        obtain ⟨m, hm, rfl, hJR⟩ := hrel
        by_cases hlm : m < 9
        · have H := hid hJR
          obtain ⟨hP, hQ, hC, hJ, hsz, hb⟩ := hJR
          obtain ⟨p0, p1, p2, p3, p4⟩ := cells5 hP k m hlt hlm
          obtain ⟨q0, q1, q2, q3, q4⟩ := cells5 hQ k m hlt hlm
          have hk0 : (0 : Int) ≤ (k : Int) := Int.natCast_nonneg _
          have hk3 : (k : Int) < 3 := by omega
          have hm0 : (0 : Int) ≤ (m : Int) := Int.natCast_nonneg _
          have hm9 : (m : Int) < 9 := by omega
          have z0 : w.heap.size < wr.heap.size := by omega
          have z1 : w.heap.size + 1 < wr.heap.size := by omega
          have z3 : w.heap.size + 1 + 1 + 1 < wr.heap.size := by omega
          have ho : k * 45 + m * 5 + (joinSl (p k m) (q k m)).cells.length ≤ (partly p q k m).arr.size := by rw [Pc.size]; show _ + 5 ≤ _; omega
          have HO := hid ho
          clear hP hQ hC hJ hsz hb ho
          go_wp2_with fail
          go_region_held3 (fun w' => (w'.cell? ⟨w.heap.size, k * 45 + m * 5, none⟩ = some (.bool (p k m).known) ∧ w'.cell? ⟨w.heap.size, k * 45 + m * 5 + 1, none⟩ = some (.bool (p k m).filled) ∧ w'.cell? ⟨w.heap.size, k * 45 + m * 5 + 2, none⟩ = some (.int .i64 (p k m).cart) ∧ w'.cell? ⟨w.heap.size, k * 45 + m * 5 + 3, none⟩ = some (.int .i64 (p k m).item) ∧ w'.cell? ⟨w.heap.size, k * 45 + m * 5 + 4, none⟩ = some (.int .i64 (p k m).value)) ∧ (w'.cell? ⟨w.heap.size + 1, k * 45 + m * 5, none⟩ = some (.bool (q k m).known) ∧ w'.cell? ⟨w.heap.size + 1, k * 45 + m * 5 + 1, none⟩ = some (.bool (q k m).filled) ∧ w'.cell? ⟨w.heap.size + 1, k * 45 + m * 5 + 2, none⟩ = some (.int .i64 (q k m).cart) ∧ w'.cell? ⟨w.heap.size + 1, k * 45 + m * 5 + 3, none⟩ = some (.int .i64 (q k m).item) ∧ w'.cell? ⟨w.heap.size + 1, k * 45 + m * 5 + 4, none⟩ = some (.int .i64 (q k m).value))) (go_keep)
            (first | (go_at_call 130; refine (joinSlots_cells (p k m) (q k m) _).mono ?_; rintro e w2 ⟨rfl, hb2⟩; obtain ⟨p0', p1', p2', p3', p4'⟩ := cells5 ((Blw.bk hb2 _ z0).trans H.out.1) k m hlt hlm; obtain ⟨q0', q1', q2', q3', q4'⟩ := cells5 ((Blw.bk hb2 _ z1).trans H.out.2.1) k m hlt hlm; have hst := run_storeCells_blk (P := Tryz.prog) ((Blw.bk hb2 _ z3).trans H.out.2.2.2.1) (joinSl (p k m) (q k m)).cells HO.out (Sl.one _); have n0 := fun o' => cell_setCells_ne (w := w2) (b := w.heap.size + 1 + 1 + 1) (b' := w.heap.size) (o := k * 45 + m * 5) (joinSl (p k m) (q k m)).cells o' (by omega); have n1 := fun o' => cell_setCells_ne (w := w2) (b := w.heap.size + 1 + 1 + 1) (b' := w.heap.size + 1) (o := k * 45 + m * 5) (joinSl (p k m) (q k m)).cells o' (by omega)))
          go_wp2
          go_roundw
          case rel => exact ⟨m + 1, by omega, by go_num, JoinRel.step H.out hlt hlm ‹_›⟩
          case measure => simp [intOf]; omega
        · have hm9 : m = 9 := by omega
          subst hm9
          go_wp2
          go_roundw
          case rel => exact ⟨k + 1, by omega, by go_num, by unfold JoinRel at *; rw [← partly_row]; exact hJR⟩
          case measure => simp [intOf]; omega
    · have hk3 : k = 3 := by omega
      subst hk3
      obtain ⟨hP, hQ, ⟨C, hC, hC'⟩, hJ, hsz, hb⟩ := hJR
      rw [partly_all] at hJ
      have hi : (Tryz.prog.info? 65).map (·.size) = some (p.join q).arr.size := by rw [size63, Pc.size]
      have hi' : (Tryz.prog.info? 65).map (·.size) = some (p.join q).cells.length := by rw [size63, Pc.len]
      have HI := hid hi
      have HI' := hid hi'
      clear hi hi'
      go_wp2_with (first | (refine wpList_load_row (by rfl) 65 _ (by rfl) (w.heap.size + 1 + 1 + 1) (by rfl) 65 _ (0, 0) _ hJ Tryz.underlying65 rfl HI.out ?_) | (refine wpList_store_blk (by rfl) 65 _ _ (by rfl) (w.heap.size + 1 + 1) 0 (p.join q).cells (by rfl) (by rfl) C 65 hC (by rw [Pc.len]; omega) HI'.out (Pc.one _) ?_))
      have hfin : (wr.setCells (w.heap.size + 1 + 1) 0 (p.join q).cells).heap[w.heap.size + 1 + 1]? = some (.cells (p.join q).arr 65) := by
        rw [heap_setCells_self _ hC, splice_all _ _ (by rw [Pc.len]; omega)]; rfl
      exact bodyPost_ret (results_cell_row rfl _ _ (w.heap.size + 1 + 1) 65 (p.join q).arr (0, 0) _ (by rfl) hfin Tryz.underlying65 rfl HI.out) rfl ⟨rfl, hb.scs _ _ _ (by omega)⟩
end Go.Proofs.YtalaldfgjgpacaaGreatDoor
