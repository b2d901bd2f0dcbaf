import Derived.Test.YtkeanpabacfdlaaGreatDoorD0
import Derived.Test.YtkeanpabacfdlaaGreatDoorM
import Derived.Laws.BytesString
namespace Go.Proofs.YtkeanpabacfdlaaGreatDoor
set_option linter.unusedVariables false
set_option linter.unusedSimpArgs false
open Go.RowKit

theorem conv1 (n : Int) (w : World) : (convert 113 9 (.slice (some ⟨w.heap.size, 0, none⟩) 1 1)).run Tryz.prog (w.alloc (.cells #[.int .u8 n] 5)) = .ok (.string ⟨#[UInt8.ofNat n.toNat]⟩) (w.alloc (.cells #[.int .u8 n] 5)) := by
  rw [run_convert_bytes_string _ 113 9 5 _ _ _ Tryz.underlying113 Tryz.underlying5 Tryz.underlying9]
  rw [run_bytesToString _ _ _ _ [n]]
  · rfl
  · have := run_loadCells_list (P := Tryz.prog) (w.alloc (.cells #[.int .u8 n] 5)) ⟨w.heap.size, 0, none⟩ [.int .u8 n] (fun j v hv => by
      match j, hv with
      | 0, hv => simp at hv; subst hv; simp [Addr.add])
    simpa using this

set_option maxRecDepth 100000 in
set_option maxHeartbeats 400000 in
theorem cartLetter_any (c : Int) (w : World) (h0 : 0 ≤ c) (h3 : c < 3) :
    Calls Tryz.prog 139 #[.int .i64 c] w fun e w' => e = .returned (.string ⟨#[cartB c.toNat]⟩) ∧ Blw w w' := by
  have hcv := conv1
  have : c = 0 ∨ c = 1 ∨ c = 2 := by omega
  rcases this with rfl | rfl | rfl
  all_goals
    go_enter Tryz.func139, Tryz.ntmps139
    go_wp2
    go_ret
    exact ⟨rfl, (Blw.rfl _).al _⟩

set_option maxRecDepth 100000 in
set_option maxHeartbeats 400000 in
theorem itemLetter_any (c : Int) (w : World) (h0 : 0 ≤ c) (h3 : c < 4) :
    Calls Tryz.prog 115 #[.int .i64 c] w fun e w' => e = .returned (.string ⟨#[itemB c.toNat]⟩) ∧ Blw w w' := by
  have hcv := conv1
  have : c = 0 ∨ c = 1 ∨ c = 2 ∨ c = 3 := by omega
  rcases this with rfl | rfl | rfl | rfl
  all_goals
    go_enter Tryz.func115, Tryz.ntmps115
    go_wp2
    go_ret
    exact ⟨rfl, (Blw.rfl _).al _⟩

set_option maxHeartbeats 400000 in
theorem dotText_any (r n : Nat) (w : World) (hr : r < 10) (hn : n < 10) :
    Calls Tryz.prog 140 #[.int .i64 r, .int .i64 n] w fun e w' => e = .returned (.string ⟨#[dig (r), dig (n)]⟩) ∧ w' = w := by
  go_enter Tryz.func140, Tryz.ntmps140
  go_wp2_with fail
  refine (itoa_digit r hr _).mono ?_
  rintro e w' ⟨rfl, rfl⟩
  go_wp2_with fail
  refine (itoa_digit n hn _).mono ?_
  rintro e w' ⟨rfl, rfl⟩
  go_wp2
  go_ret
  exact ⟨ret_str (by simp only [ByteArray.mk_append_mk]; rfl), rfl⟩

set_option maxHeartbeats 400000 in
theorem valueText_any (v : Int) (w : World) (h0 : -99 ≤ v) (h1 : v ≤ 99) :
    Calls Tryz.prog 141 #[.int .i64 v] w fun e w' => e = .returned (.string ⟨(valL v).toArray⟩) ∧ w' = w := by
  obtain ⟨l, hl⟩ : ∃ l, l = valL v := ⟨_, rfl⟩
  rw [← hl]
  have HT := hid (fun d hd wx => two_any d wx hd)
  by_cases hneg : v < 0
  · obtain ⟨d, rfl⟩ : ∃ d : Nat, v = -(d : Int) := ⟨v.natAbs, by omega⟩
    have hd : d < 100 := by omega
    have hd0 : 0 < d := by omega
    have HL : Hid (l = [45, dig (d / 10), dig (d % 10)]) := by
      rw [hl, valL]; have : (-(d:Int)).natAbs = d := by omega
      rw [this, if_pos hneg]; rfl
    clear hl
    go_enter Tryz.func141, Tryz.ntmps141
    go_wp2_with fail
    refine (HT.out d hd _).mono ?_
    rintro e w' ⟨rfl, rfl⟩
    go_wp2
    go_ret
    rw [HL.out]
    exact ⟨ret_str (by simp only [ByteArray.mk_append_mk]; rfl), rfl⟩
  · obtain ⟨d, rfl⟩ : ∃ d : Nat, v = (d : Int) := ⟨v.natAbs, by omega⟩
    have hd : d < 100 := by omega
    have HL : Hid (l = [43, dig (d / 10), dig (d % 10)]) := by
      rw [hl, valL]; have : ((d:Int)).natAbs = d := by omega
      rw [this, if_neg hneg]; rfl
    clear hl
    go_enter Tryz.func141, Tryz.ntmps141
    go_wp2_with fail
    refine (HT.out d hd _).mono ?_
    rintro e w' ⟨rfl, rfl⟩
    go_wp2
    go_ret
    rw [HL.out]
    exact ⟨ret_str (by simp only [ByteArray.mk_append_mk]; rfl), rfl⟩
end Go.Proofs.YtkeanpabacfdlaaGreatDoor
