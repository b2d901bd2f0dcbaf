import Derived.Test.YtkeanpabacfdlaaGreatDoorW6
import Derived.Deep.Cut
namespace Go.Proofs.YtkeanpabacfdlaaGreatDoor
set_option linter.unusedVariables false
set_option linter.unusedSimpArgs false
open Go.RowKit
attribute [local go_sem ↓] Go.wp_at_zero Go.wp_at_succ

def Pc.entTo (p : Pc) : Nat → List UInt8
  | 0 => []
  | n + 1 => p.entTo n ++ p.textTo ((n / 4 : Nat) : Int) ((n % 4 : Nat) : Int) 27

theorem entTo_len (p : Pc) (n : Nat) : (p.entTo n).length ≤ 189 * n := by
  induction n with
  | zero => simp [Pc.entTo]
  | succ n ih => simp only [Pc.entTo, List.length_append]; have := textTo_len p ((n / 4 : Nat) : Int) ((n % 4 : Nat) : Int) 27; omega

theorem entTo_succ (p : Pc) (k m : Nat) (hm : m < 4) : p.entTo (k * 4 + (m + 1)) = p.entTo (k * 4 + m) ++ p.textTo (k : Int) (m : Int) 27 := by
  show p.entTo (k * 4 + m + 1) = _
  rw [Pc.entTo]
  have e1 : (k * 4 + m) / 4 = k := by omega
  have e2 : (k * 4 + m) % 4 = m := by omega
  rw [e1, e2]

set_option maxRecDepth 100000 in
set_option maxHeartbeats 1000000 in
theorem entriesText_any (p : Pc) (hp : p.ok) (w : World) :
    Calls Tryz.prog 79 #[.agg p.arr] w fun e w' => e = .returned (.string ⟨(p.entTo 12).toArray⟩) ∧ Blw w w' := by
  have HP := hid hp
  have HI := hid (show (Tryz.prog.info? 97).map (·.size) = some p.arr.size by rw [size63, Pc.size])
  clear hp
  go_enter Tryz.func79, Tryz.ntmps79
  go_wp2
  go_loopw [3, 4] (fun s r wr => ∃ k : Nat, k ≤ 3 ∧ r = .int .i64 k ∧ s = .string ⟨(p.entTo (k * 4)).toArray⟩ ∧ HasPc p w wr) (fun _ r _ => 3 - (intOf r).toNat)
  case atStart => exact ⟨0, by omega, rfl, rfl, HasPc.start p w⟩
  case round =>
    obtain ⟨k, hk, rfl, rfl, hJR⟩ := hrel
    by_cases hlt : k < 3
    · have hd : decide ((k : Int) < 3) = true := by simp; omega
      go_wp2
      go_loopw [3, 5] (fun s i wr => ∃ m : Nat, m ≤ 4 ∧ i = .int .i64 m ∧ s = .string ⟨(p.entTo (k * 4 + m)).toArray⟩ ∧ HasPc p w wr) (fun _ i _ => 4 - (intOf i).toNat)
      case atStart => exact ⟨0, by omega, rfl, rfl, hJR⟩
      case round =>
        clear hJR
        obtain ⟨m, hm, rfl, rfl, hJR⟩ := hrel
        by_cases hlm : m < 4
        · have H := hid hJR
          have hln := entTo_len p (k * 4 + m)
          have HS := hid (entTo_succ p k m hlm)
          generalize p.entTo (k * 4 + m) = tx at *
          have hg := hJR.1
          clear hJR
          go_wp2_with (first | (refine wpList_load_row (by rfl) 97 (.tmp 1) (by rfl) w.heap.size (by rfl) 97 p.arr (0, 0) _ hg Tryz.underlying97 rfl HI.out ?_))
          refine (itemText_any p HP.out k m _).mono ?_
          rintro e w2 ⟨rfl, hb⟩
          have H2 := hid (H.out.on hb)
          have tl := textTo_len p (k : Int) (m : Int) 27
          clear hb hg
          go_wp2
          go_roundw
          case rel => exact ⟨m + 1, by omega, by go_num, by rw [HS.out, bytes_app], H2.out⟩
          case measure => simp [intOf]; omega
        · have hm9 : m = 4 := by omega
          subst hm9
          go_wp2
          go_roundw
          case rel => exact ⟨k + 1, by omega, by go_num, by rw [show (k + 1) * 4 = k * 4 + 4 by omega], hJR⟩
          case measure => simp [intOf]; omega
    · have hk3 : k = 3 := by omega
      subst hk3
      go_wp2
      go_ret
      exact ⟨rfl, hJR.2.2⟩

set_option maxHeartbeats 400000 in
theorem isDot_yes (r n : Nat) (w : World) (hr : r < 3) (hn0 : 1 ≤ n) (hn : n ≤ 9) :
    Calls Tryz.prog 125 #[.int .i64 r, .int .i64 n] w fun e w' => e = .returned (.bool true) ∧ w' = w := by
  have h1 : decide ((0 : Int) ≤ (r : Int)) = true := by simp
  have h2 : decide ((r : Int) < 3) = true := by simp; omega
  have h3 : decide ((1 : Int) ≤ (n : Int)) = true := by simp; omega
  have h4 : decide ((n : Int) ≤ 9) = true := by simp; omega
  go_enter Tryz.func125, Tryz.ntmps125
  go_wp2
  go_ret
  exact ⟨rfl, rfl⟩

set_option maxHeartbeats 400000 in
theorem isEntry_yes (c it v : Int) (w : World) (hc0 : 0 ≤ c) (hc1 : c < 3) (hi0 : 0 ≤ it) (hi1 : it < 4) (hv0 : -99 ≤ v) (hv1 : v ≤ 99) :
    Calls Tryz.prog 126 #[.agg #[.int .i64 c, .int .i64 it, .int .i64 v]] w fun e w' => e = .returned (.bool true) ∧ Blw w w' := by
  have g1 : decide (c < 0) = false := by simp; omega
  have g2 : decide (3 ≤ c) = false := by simp; omega
  have g3 : decide (it < 0) = false := by simp; omega
  have g4 : decide (4 ≤ it) = false := by simp; omega
  have g5 : decide (-99 ≤ v) = true := by simp; omega
  have g6 : decide (v ≤ 99) = true := by simp; omega
  go_enter Tryz.func126, Tryz.ntmps126
  go_wp2
  go_ret
  exact ⟨rfl, (Blw.rfl _).al _⟩


/-- What a whole store over a new row leaves. -/
theorem hp_store {w : World} {b : Nat} {C : Array Value} {t : TypeId} (q : Pc) (h : w.heap[b]? = some (.cells C t)) (hC : C.size = 135) : (w.setCells b 0 q.cells).heap[b]? = some (.cells q.arr t) := by
  rw [heap_setCells_self _ h, splice_all _ _ (by rw [Pc.len]; omega)]; rfl

set_option maxRecDepth 100000 in
set_option maxHeartbeats 1000000 in
theorem withDot_any (p : Pc) (r n : Nat) (w : World) (hr : r < 3) (hn : n < 9) :
    Calls Tryz.prog 110 #[.agg p.arr, .int .i64 r, .int .i64 ((n : Int) + 1)] w fun e w' => e = .returned (.agg (p.put r n { p r n with known := true }).arr) ∧ Blw w w' := by
  obtain ⟨q, hq⟩ : ∃ q, q = p.put r n { p r n with known := true } := ⟨_, rfl⟩
  rw [← hq]
  have HQ := hid (show p.arr.setIfInBounds (r * 45 + n * 5) (.bool true) = q.arr by rw [hq]; exact set_known p r n hr hn)
  have HI := hid (show (Tryz.prog.info? 97).map (·.size) = some q.arr.size by rw [size63, Pc.size])
  have HI' := hid (show (Tryz.prog.info? 97).map (·.size) = some q.cells.length by rw [size63, Pc.len])
  clear hq
  have hk0 : (0 : Int) ≤ (r : Int) := Int.natCast_nonneg _
  have hk3 : (r : Int) < 3 := by omega
  have hc : p.arr[r * 45 + n * 5]? = some (.bool (p r n).known) := Pc.atRIK p r n 0 hr hn (by omega)
  go_enter Tryz.func110, Tryz.ntmps110
  go_wp2_with fail
  refine (isDot_yes r (n + 1) _ hr (by omega) (by omega)).mono ?_
  rintro e w2 ⟨rfl, rfl⟩
  go_upto_region 4 with fail
  rw [HQ.out]
  have hg : ((w.alloc (.cells q.arr 97)).alloc (.cells Tryz.zeroCells97 97)).heap[w.heap.size]? = some (.cells q.arr 97) := hp_old _ (by simp) (hp_new _ _)
  have hz : ((w.alloc (.cells q.arr 97)).alloc (.cells Tryz.zeroCells97 97)).heap[w.heap.size + 1]? = some (.cells Tryz.zeroCells97 97) := by simpa using hp_new (w.alloc (.cells q.arr 97)) (.cells Tryz.zeroCells97 97)
  go_wp2_with (first | (refine wpList_load_row (by rfl) 97 (.tmp 3) (by rfl) w.heap.size (by rfl) 97 q.arr (0, 0) _ hg Tryz.underlying97 rfl HI.out ?_) | (refine wpList_store_blk (by rfl) 97 (.tmp 6) (.tmp 19) (by rfl) (w.heap.size + 1) 0 q.cells (by rfl) (by rfl) Tryz.zeroCells97 97 hz (by rw [Pc.len, zsize63]; omega) HI'.out (Pc.one _) ?_))
  exact bodyPost_ret (results_cell_row rfl _ _ (w.heap.size + 1) 97 q.arr (0, 0) _ (by rfl) (hp_store q hz zsize63) Tryz.underlying97 rfl HI.out) rfl ⟨rfl, (((Blw.rfl _).al _).al _).scs _ _ _ (by omega)⟩

end Go.Proofs.YtkeanpabacfdlaaGreatDoor
