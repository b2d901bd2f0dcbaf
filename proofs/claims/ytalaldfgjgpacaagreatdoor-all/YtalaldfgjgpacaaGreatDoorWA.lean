import Derived.Test.YtalaldfgjgpacaaGreatDoorML
import Derived.Test.YtalaldfgjgpacaaGreatDoorProg
namespace Go.Proofs.YtalaldfgjgpacaaGreatDoor
set_option linter.unusedVariables false
set_option linter.unusedSimpArgs false
open Go.RowKit

set_option maxHeartbeats 400000 in
theorem isOf_any (s : Sl) (c it : Int) (w : World) :
    Calls Tryz.prog 134 #[.agg s.cells.toArray, .int .i64 c, .int .i64 it] w fun e w' => e = .returned (.bool (s.isOf c it)) ∧ w' = w.alloc (.cells s.cells.toArray 61) := by
  obtain ⟨k, f, a, b, v⟩ := s
  unfold Sl.isOf Sl.cells
  cases f
  · go_enter Tryz.func134, Tryz.ntmps134
    go_wp2
    go_ret
    exact ⟨rfl, rfl⟩
  · by_cases h1 : a = c
    · have h1' : (a == c) = true := by simp [h1]
      have H : Hid (a = c) := h1
      clear h1
      go_enter Tryz.func134, Tryz.ntmps134
      go_wp2
      go_ret
      simp [h1']
    · have h1' : (a == c) = false := by simp [h1]
      clear h1
      go_enter Tryz.func134, Tryz.ntmps134
      go_wp2
      go_ret
      simp [h1']

theorem eq59 (f f' : Bool) (c i v c' i' v' : Int) (wx : World) : (binOp .eql 61 (.agg #[.bool true, .bool f, .int .i64 c, .int .i64 i, .int .i64 v]) (.agg #[.bool true, .bool f', .int .i64 c', .int .i64 i', .int .i64 v'])).run Tryz.prog wx = .ok (.bool (f == f' && (c == c' && (i == i' && v == v')))) wx := by
  by_cases h1 : f = f' <;> by_cases h2 : c = c' <;> by_cases h3 : i = i' <;> by_cases h4 : v = v' <;> simp [go_sem, h1, h2, h3, h4]

set_option maxHeartbeats 400000 in
theorem joinSlots_any (a b : Sl) (w : World) :
    Calls Tryz.prog 130 #[.agg a.cells.toArray, .agg b.cells.toArray] w fun e w' => e = .returned (.agg (joinSl a b).cells.toArray) ∧ Blw w w' := by
  obtain ⟨r, hr⟩ : ∃ r, r = joinSl a b := ⟨_, rfl⟩
  rw [← hr]
  have HR : Hid (r = joinSl a b) := hr
  clear hr
  obtain ⟨k, f, c, i, v⟩ := a
  obtain ⟨k', f', c', i', v'⟩ := b
  show Calls Tryz.prog 130 #[.agg #[.bool k, .bool f, .int .i64 c, .int .i64 i, .int .i64 v], .agg #[.bool k', .bool f', .int .i64 c', .int .i64 i', .int .i64 v']] w _
  cases k
  · go_enter Tryz.func130, Tryz.ntmps130
    go_wp2
    exact bodyPost_ret (v := .agg #[.bool k', .bool f', .int .i64 c', .int .i64 i', .int .i64 v']) (by simp [results, Tryz.results130, go_sem]) rfl ⟨by rw [HR.out]; simp [joinSl, Sl.cells], (((Blw.rfl _).al _).al _).al _⟩
  · cases k'
    · go_enter Tryz.func130, Tryz.ntmps130
      go_wp2
      exact bodyPost_ret (v := .agg #[.bool true, .bool f, .int .i64 c, .int .i64 i, .int .i64 v]) (by simp [results, Tryz.results130, go_sem]) rfl ⟨by rw [HR.out]; simp [joinSl, Sl.cells], (((Blw.rfl _).al _).al _).al _⟩
    · have he := eq59 f f' c i v c' i' v'
      obtain ⟨s, hs⟩ : ∃ s, s = (f == f' && (c == c' && (i == i' && v == v'))) := ⟨_, rfl⟩
      rw [← hs] at he
      have HS : Hid (s = (f == f' && (c == c' && (i == i' && v == v')))) := hs
      clear hs
      cases s
      · go_enter Tryz.func130, Tryz.ntmps130
        go_wp2
        exact bodyPost_ret (v := .agg #[.bool true, .bool false, .int .i64 0, .int .i64 0, .int .i64 0]) (by simp [results, Tryz.results130, go_sem]) rfl ⟨by rw [HR.out]; have h := HS.out; simp only [joinSl, Sl.same, ← h]; simp [Sl.cells], (((Blw.rfl _).al _).al _).al _⟩
      · go_enter Tryz.func130, Tryz.ntmps130
        go_wp2
        exact bodyPost_ret (v := .agg #[.bool true, .bool f, .int .i64 c, .int .i64 i, .int .i64 v]) (by simp [results, Tryz.results130, go_sem]) rfl ⟨by rw [HR.out]; have h := HS.out; simp only [joinSl, Sl.same, ← h]; simp [Sl.cells], (((Blw.rfl _).al _).al _).al _⟩
end Go.Proofs.YtalaldfgjgpacaaGreatDoor
