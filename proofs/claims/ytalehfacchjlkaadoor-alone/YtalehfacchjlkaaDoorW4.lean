import Derived.Test.YtalehfacchjlkaaDoorShelf
import Derived.Test.YtalehfacchjlkaaDoorM
import Derived.Laws.BytesString
namespace Go.Proofs.YtalehfacchjlkaaDoor
set_option linter.unusedVariables false
set_option linter.unusedSimpArgs false
open Go.RowKit

theorem conv1 (n : Int) (w : World) : (convert 72 9 (.slice (some ⟨w.heap.size, 0, none⟩) 1 1)).run Tryd.prog (w.alloc (.cells #[.int .u8 n] 5)) = .ok (.string ⟨#[UInt8.ofNat n.toNat]⟩) (w.alloc (.cells #[.int .u8 n] 5)) := by
  rw [run_convert_bytes_string _ 72 9 5 _ _ _ Tryd.underlying72 Tryd.underlying5 Tryd.underlying9]
  rw [run_bytesToString _ _ _ _ [n]]
  · rfl
  · have := run_loadCells_list (P := Tryd.prog) (w.alloc (.cells #[.int .u8 n] 5)) ⟨w.heap.size, 0, none⟩ [.int .u8 n] (fun j v hv => by
      match j, hv with
      | 0, hv => simp at hv; subst hv; simp [Addr.add])
    simpa using this

theorem itoa_digit (d : Nat) (hd : d < 10) (w : World) : Calls Tryd.prog 44 #[.int .i64 d] w fun e w' => e = .returned (.string ⟨#[dig (d)]⟩) ∧ w' = w := by
  have h := Tryd.strconv_Itoa_small d (by omega) w
  rw [Lib.decDigits, dif_pos hd] at h
  exact h

set_option maxRecDepth 100000 in
set_option maxHeartbeats 400000 in
theorem cartLetter_any (c : Int) (w : World) (h0 : 0 ≤ c) (h3 : c < 3) :
    Calls Tryd.prog 52 #[.int .i64 c] w fun e w' => e = .returned (.string ⟨#[cartB c.toNat]⟩) ∧ Blw w w' := by
  have hcv := conv1
  have : c = 0 ∨ c = 1 ∨ c = 2 := by omega
  rcases this with rfl | rfl | rfl
  all_goals
    go_enter Tryd.func52, Tryd.ntmps52
    go_wp2
    go_ret
    exact ⟨rfl, (Blw.rfl _).al _⟩

set_option maxRecDepth 100000 in
set_option maxHeartbeats 400000 in
theorem itemLetter_any (c : Int) (w : World) (h0 : 0 ≤ c) (h3 : c < 4) :
    Calls Tryd.prog 43 #[.int .i64 c] w fun e w' => e = .returned (.string ⟨#[itemB c.toNat]⟩) ∧ Blw w w' := by
  have hcv := conv1
  have : c = 0 ∨ c = 1 ∨ c = 2 ∨ c = 3 := by omega
  rcases this with rfl | rfl | rfl | rfl
  all_goals
    go_enter Tryd.func43, Tryd.ntmps43
    go_wp2
    go_ret
    exact ⟨rfl, (Blw.rfl _).al _⟩

set_option maxHeartbeats 400000 in
theorem dotText_any (r n : Nat) (w : World) (hr : r < 10) (hn : n < 10) :
    Calls Tryd.prog 53 #[.int .i64 r, .int .i64 n] w fun e w' => e = .returned (.string ⟨#[dig (r), dig (n)]⟩) ∧ w' = w := by
  go_enter Tryd.func53, Tryd.ntmps53
  go_wp2_with fail
  refine (itoa_digit r hr _).mono ?_
  rintro e w' ⟨rfl, rfl⟩
  go_wp2_with fail
  refine (itoa_digit n hn _).mono ?_
  rintro e w' ⟨rfl, rfl⟩
  go_wp2
  go_ret
  exact ⟨ret_str (by simp only [ByteArray.mk_append_mk]; rfl), rfl⟩

theorem itoa_small (d : Nat) (hd : d < 100) (w : World) : Calls Tryd.prog 44 #[.int .i64 d] w fun e w' => e = .returned (.string ⟨(if d < 10 then [dig (d)] else [dig (d / 10), dig (d % 10)]).toArray⟩) ∧ w' = w := by
  have h := Tryd.strconv_Itoa_small d hd w
  rw [Lib.decDigits] at h
  split at h
  · rw [if_pos ‹_›]; exact h
  · rw [if_neg ‹_›]
    rw [Lib.decDigits, dif_pos (by omega)] at h
    exact h

set_option maxHeartbeats 400000 in
theorem valueText_any (v : Int) (w : World) (h0 : -99 ≤ v) (h1 : v ≤ 99) :
    Calls Tryd.prog 54 #[.int .i64 v] w fun e w' => e = .returned (.string ⟨(valL v).toArray⟩) ∧ w' = w := by
  obtain ⟨l, hl⟩ : ∃ l, l = valL v := ⟨_, rfl⟩
  rw [← hl]
  by_cases hneg : v < 0
  · obtain ⟨d, rfl⟩ : ∃ d : Nat, v = -(d : Int) := ⟨v.natAbs, by omega⟩
    have hd : d < 100 := by omega
    have hd0 : 0 < d := by omega
    by_cases h10 : d < 10
    · have HL : Hid (l = [45, 48, dig (d)]) := by
        rw [hl, valL]; have : (-(d:Int)).natAbs = d := by omega
        rw [this, if_pos hneg, Nat.div_eq_of_lt h10, Nat.mod_eq_of_lt h10]; rfl
      clear hl
      go_enter Tryd.func54, Tryd.ntmps54
      go_wp2_with fail
      refine (itoa_digit d h10 _).mono ?_
      rintro e w' ⟨rfl, rfl⟩
      go_wp2
      go_ret
      rw [HL.out]
      exact ⟨ret_str (by simp only [ByteArray.mk_append_mk]; rfl), rfl⟩
    · have HL : Hid (l = [45, dig (d / 10), dig (d % 10)]) := by
        rw [hl, valL]; have : (-(d:Int)).natAbs = d := by omega
        rw [this, if_pos hneg]; rfl
      clear hl
      go_enter Tryd.func54, Tryd.ntmps54
      go_wp2_with fail
      refine (itoa_small d hd _).mono ?_
      rw [if_neg h10]
      rintro e w' ⟨rfl, rfl⟩
      go_wp2
      go_ret
      rw [HL.out]
      exact ⟨ret_str (by simp only [ByteArray.mk_append_mk]; rfl), rfl⟩
  · obtain ⟨d, rfl⟩ : ∃ d : Nat, v = (d : Int) := ⟨v.natAbs, by omega⟩
    have hd : d < 100 := by omega
    by_cases h10 : d < 10
    · have HL : Hid (l = [43, 48, dig (d)]) := by
        rw [hl, valL]; have : ((d:Int)).natAbs = d := by omega
        rw [this, if_neg hneg, Nat.div_eq_of_lt h10, Nat.mod_eq_of_lt h10]; rfl
      clear hl
      go_enter Tryd.func54, Tryd.ntmps54
      go_wp2_with fail
      refine (itoa_digit d h10 _).mono ?_
      rintro e w' ⟨rfl, rfl⟩
      go_wp2
      go_ret
      rw [HL.out]
      exact ⟨ret_str (by simp only [ByteArray.mk_append_mk]; rfl), rfl⟩
    · have HL : Hid (l = [43, dig (d / 10), dig (d % 10)]) := by
        rw [hl, valL]; have : ((d:Int)).natAbs = d := by omega
        rw [this, if_neg hneg]; rfl
      clear hl
      go_enter Tryd.func54, Tryd.ntmps54
      go_wp2_with fail
      refine (itoa_small d hd _).mono ?_
      rw [if_neg h10]
      rintro e w' ⟨rfl, rfl⟩
      go_wp2
      go_ret
      rw [HL.out]
      exact ⟨ret_str (by simp only [ByteArray.mk_append_mk]; rfl), rfl⟩
end Go.Proofs.YtalehfacchjlkaaDoor
