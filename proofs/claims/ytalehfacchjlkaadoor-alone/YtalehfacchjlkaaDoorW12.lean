import Derived.Deep.RegionWith
import Derived.Test.YtalehfacchjlkaaDoorW11
namespace Go.Proofs.YtalehfacchjlkaaDoor
set_option linter.unusedVariables false
set_option linter.unusedSimpArgs false
open Go.RowKit
attribute [local go_sem ↓] Go.wp_at_zero Go.wp_at_succ run_load63 run_store63
attribute [local go_sem] blkOf_mk offOf_mk isPt_mk isRow_pc Has_drew HasW_drew rowOf_drew

/-- Behind a call nothing but the replica's own row is changed, and that holds q. -/
def RepTo (b me n : Nat) (q : Pc) (w w' : World) : Prop := w'.heap[b]? = some (.cells (repArr me n q) 65) ∧ Bx b w w'

set_option maxRecDepth 100000 in
set_option maxHeartbeats 400000 in
theorem learn_any (b me n : Nat) (p q : Pc) (w : World) (h : w.heap[b]? = some (.cells (repArr me n p) 65)) :
    Calls Tryd.prog 36 #[.pointer (some ⟨b, 0, none⟩), .agg q.arr] w fun e w' => e = .returned (.tuple #[]) ∧ RepTo b me n (p.join q) w w' := by
  have hbl := lt_of_blk h
  have H := hid h
  have H1 := hid (hp_old (.cells q.arr 63) hbl h)
  have H2 := hid (hp_new w (.cells q.arr 63))
  have hrow := rowOf_rep H1.out
  have hhas := Has_rep H1.out
  have hrow2 := rowOf_pc H2.out
  have hhas2 := Has_pc H2.out
  have HJ := hid (fun wx => join_any p q wx)
  have hz : b < w.heap.size + 1 := by omega
  have hne : b ≠ w.heap.size := by omega
  clear h
  go_enter Tryd.func36, Tryd.ntmps36
  go_wp2
  go_region_with (first | (go_at_call 39; refine (HJ.out _).mono ?_; rintro e w1 ⟨rfl, b1⟩; have hw1 := HasW_rep ((b1.bk b (by simp; omega)).trans H1.out)))
  all_goals
    go_end0
    exact ⟨rfl, put_rep ((b1.bk b (by simp; omega)).trans H1.out), put_bx (Blw.bx (Blw.tr ((Blw.rfl _).al _) (Blw.tr (Blw.dr (Blw.rfl _)) b1)) b) _ _⟩

set_option maxRecDepth 100000 in
set_option maxHeartbeats 400000 in
theorem putEvent_no (b me n : Nat) (p q : Pc) (s : ByteArray) (c it v : Int) (w : World) (hn : n ≤ 3) (hs : s.size ≤ maxLen) (h : w.heap[b]? = some (.cells (repArr me n p) 65)) (hE : evErr me n p s.data.toList ≠ 0) :
    Calls Tryd.prog 22 #[.pointer (some ⟨b, 0, none⟩), .string s, .agg q.arr, .agg #[.int .i64 c, .int .i64 it, .int .i64 v]] w fun e w' => e = .returned (.tuple #[.string ⟨#[]⟩, .int .i64 (evErr me n p s.data.toList)]) ∧ Blw w w' := by
  have hbl := lt_of_blk h
  have HC := hid (checkEvent_any b me n p s ((w.alloc (.cells q.arr 63)).alloc (.cells #[.int .i64 c, .int .i64 it, .int .i64 v] 57)) hn hs (hp_old _ (by simp; omega) (hp_old _ hbl h)))
  generalize evErr me n p s.data.toList = ee at *
  have he : (ee != 0) = true := by simp [hE]
  clear hE h
  go_enter Tryd.func22, Tryd.ntmps22
  go_wp2_with fail
  refine HC.out.mono ?_
  rintro e w0 ⟨rfl, b0⟩
  go_wp2
  go_ret2
  exact ⟨rfl, Blw.tr (((Blw.rfl _).al _).al _) b0⟩

end Go.Proofs.YtalehfacchjlkaaDoor
