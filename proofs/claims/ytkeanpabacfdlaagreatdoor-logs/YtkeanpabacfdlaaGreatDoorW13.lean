import Derived.Deep.RegionWith
import Derived.Deep.DeepCutAuto
import Derived.Test.YtkeanpabacfdlaaGreatDoorW12
namespace Go.Proofs.YtkeanpabacfdlaaGreatDoor
set_option linter.unusedVariables false
set_option linter.unusedSimpArgs false
open Go.RowKit
variable {xt : Ext}
attribute [local go_sem ↓] Go.wp_at_zero Go.wp_at_succ run_load63 run_store63
attribute [local go_sem] blkOf_mk offOf_mk isPt_mk isRow_pc Has_drew HasW_drew rowOf_drew HasW_new Has_alloc rowOf_alloc


theorem zle63 : 0 + 135 ≤ Tryz.zeroCells97.size := by rw [zsize63]; decide

theorem putA {w w2 w3 : World} {b me n : Nat} {p q : Pc} (hw : Blw w w2) (g : w2.heap[b]? = some (.cells (repArr me n p xt) 99)) (b3 : Blw w2.drew w3) :
    (putRowAt (w3.alloc (.cells Tryz.zeroCells97 97)) w3.heap.size 0 (.agg q.arr)).heap[w3.heap.size]? = some (.cells q.arr 97) ∧ (putRowAt (w3.alloc (.cells Tryz.zeroCells97 97)) w3.heap.size 0 (.agg q.arr)).heap[b]? = some (.cells (repArr me n p xt) 99) ∧ Blw w (putRowAt (w3.alloc (.cells Tryz.zeroCells97 97)) w3.heap.size 0 (.agg q.arr)) := by
  have h3 := b3.bk' (drew_blk g)
  have hw3 : Blw w w3 := hw.tr (Blw.tr (Blw.dr (Blw.rfl _)) b3)
  refine ⟨put_new, ?_, put_blw (hw3.al _) _ _ hw3.sz⟩
  rw [put_ne (Nat.ne_of_lt (lt_of_blk h3))]
  exact hp_old _ (lt_of_blk h3) h3
theorem putB {w w2 w3 : World} {b me n : Nat} {p q : Pc} (hw : Blw w w2) (g : w2.heap[b]? = some (.cells (repArr me n p xt) 99)) (b3 : Blw (w2.alloc (.cells Tryz.zeroCells97 97)).drew w3) :
    (putRowAt w3 w2.heap.size 0 (.agg q.arr)).heap[w2.heap.size]? = some (.cells q.arr 97) ∧ (putRowAt w3 w2.heap.size 0 (.agg q.arr)).heap[b]? = some (.cells (repArr me n p xt) 99) ∧ Blw w (putRowAt w3 w2.heap.size 0 (.agg q.arr)) := by
  have hn := b3.bk' (hp_new w2 (.cells Tryz.zeroCells97 97))
  have h3 := b3.bk' (drew_blk (hp_old (.cells Tryz.zeroCells97 97) (lt_of_blk g) g))
  have hw3 : Blw w w3 := (hw.al _).tr (Blw.tr (Blw.dr (Blw.rfl _)) b3)
  refine ⟨put_pc hn zsize63, ?_, put_blw hw3 _ _ hw.sz⟩
  rw [put_ne (Nat.ne_of_lt (lt_of_blk g))]
  exact h3

set_option maxRecDepth 100000 in
set_option maxHeartbeats 2000000 in
theorem putEvent_yes (b me n : Nat) (p q : Pc) (s : ByteArray) (c it v : Int) (w : World) (hn : n ≤ 3) (hme : me < n) (hs : s.size ≤ maxLen) (h : w.heap[b]? = some (.cells (repArr me n p xt) 99)) (hE : evErr me n p s.data.toList = 0)
    (hc0 : 0 ≤ c) (hc1 : c < 3) (hi0 : 0 ≤ it) (hi1 : it < 4) (hv0 : -99 ≤ v) (hv1 : v ≤ 99) (hq : (q.put me (p.count (me : Int)) ⟨true, true, c, it, v⟩).ok) (hx : xt.small) (ht : Tab Tryz.prog w) :
    Calls Tryz.prog 63 #[.pointer (some ⟨b, 0, none⟩), .string s, .agg q.arr, .agg #[.int .i64 c, .int .i64 it, .int .i64 v]] w fun e w' => e = .returned (.tuple #[.string ⟨((p.join (q.put me (p.count (me : Int)) ⟨true, true, c, it, v⟩)).digsTo n).toArray⟩, .int .i64 0]) ∧ RepTo b me n (p.join (q.put me (p.count (me : Int)) ⟨true, true, c, it, v⟩)) (xt.next (q.put me (p.count (me : Int)) ⟨true, true, c, it, v⟩)) w w' := by
  have hbl := lt_of_blk h
  have hcnt : p.count (me : Int) < 9 := by
    rcases Nat.lt_or_ge (p.count (me : Int)) 9 with h9 | h9
    · exact h9
    · unfold evErr at hE
      split at hE
      · cases hE
      · exact absurd hE ‹_›
  have H1 := hid (show ((w.alloc (.cells q.arr 97)).alloc (.cells #[.int .i64 c, .int .i64 it, .int .i64 v] 91)).heap[b]? = some (.cells (repArr me n p xt) 99) from hp_old _ (by simp; omega) (hp_old _ hbl h))
  have HC := hid (checkEvent_any b me n p s ((w.alloc (.cells q.arr 97)).alloc (.cells #[.int .i64 c, .int .i64 it, .int .i64 v] 91)) hn hs H1.out)
  rw [hE] at HC
  have HN := hid (fun wx hx => nextNumber_any (xt := xt) b me n p wx hx)
  generalize p.count (me : Int) = d at *
  have HW := hid (fun wx => withEntry_any q me d c it v wx (by omega) hcnt hc0 hc1 hi0 hi1 hv0 hv1)
  have HQ := hid hq
  have HX := hid hx
  have TB := hid ht
  clear h hE hq hx ht
  go_enter Tryz.func63, Tryz.ntmps63
  go_wp2_with fail
  refine HC.out.mono ?_
  rintro e w0 ⟨rfl, b0⟩
  go_wp2_with fail
  refine (HN.out _ ((b0.bk b (by simp; omega)).trans H1.out)).mono ?_
  rintro e w2 ⟨rfl, b2⟩
  have B2 := hid (b0.tr b2)
  have G0 := hid ((B2.out.bk b (by simp; omega)).trans H1.out)
  have G1 := hid ((B2.out.bk w.heap.size (by simp; omega)).trans (hp_old _ (by simp) (hp_new _ _)))
  have G2 : Hid (w2.heap[w.heap.size + 1]? = some (.cells #[.int .i64 c, .int .i64 it, .int .i64 v] 91)) := (B2.out.bk (w.heap.size + 1) (by simp)).trans (by simpa using hp_new (w.alloc (.cells q.arr 97)) _)
  have hrow := rowOf_pc G1.out
  have hhas := Has_pc G1.out
  have hmec := rep_me G0.out
  have e0 : w2.cell? ⟨w.heap.size + 1, 0, none⟩ = some (.int .i64 c) := blk_cell G2.out 0
  have e1 : w2.cell? ⟨w.heap.size + 1, 1, none⟩ = some (.int .i64 it) := blk_cell G2.out 1
  have e2 : w2.cell? ⟨w.heap.size + 1, 2, none⟩ = some (.int .i64 v) := blk_cell G2.out 2
  have HWW : Hid (Blw w w2) := Blw.tr (((Blw.rfl _).al _).al _) B2.out
  have z0 := lt_of_blk G0.out
  have z1 := lt_of_blk G1.out
  have z2 := lt_of_blk G2.out
  clear b0 b2
  go_wp2_with fail
  go_cut [12] (fun s w' => ∃ nb, s = .pointer (some ⟨nb, 0, none⟩) ∧ w'.heap[nb]? = some (.cells (q.put me d ⟨true, true, c, it, v⟩).arr 97) ∧ w'.heap[b]? = some (.cells (repArr me n p xt) 99) ∧ Blw w w')
  case first =>
    go_region_with (first | (go_at_call 104; refine (HW.out _).mono ?_; rintro e w3 ⟨rfl, b3⟩; have sz3 : w2.heap.size ≤ w3.heap.size := (by have := b3.sz; simp at this; omega); (first | (have hW3 : HasW w3 w2.heap.size 0 := HasW_of (b3.bk' (hp_new w2 (.cells Tryz.zeroCells97 97))) zle63; have R := hid (putB (q := q.put me d ⟨true, true, c, it, v⟩) HWW.out G0.out b3)) | (have R := hid (putA (q := q.put me d ⟨true, true, c, it, v⟩) HWW.out G0.out b3)))))
    all_goals
      go_wp2_with fail
      go_meet
      case rel => exact ⟨_, rfl, R.out⟩
  case rest =>
    obtain ⟨nb, rfl, hn1, hn2, hn3⟩ := hcut
    have hrow' := rowOf_pc hn1
    have hhas' := Has_pc hn1
    have K := hid (And.intro hn2 hn3)
    clear hn1 hn2 hn3 hrow hhas hmec e0 e1 e2
    have HL := hid (fun wx hx' ht' => learn_any b me n p (q.put me d ⟨true, true, c, it, v⟩) xt wx HQ.out HX.out ht' hx')
    have HD := hid (fun wx hx => counts_any (xt := xt.next (q.put me d ⟨true, true, c, it, v⟩)) b me n (p.join (q.put me d ⟨true, true, c, it, v⟩)) wx hn hx)
    go_wp2_with fail
    refine (HL.out _ K.out.1 (TB.out.blw K.out.2)).mono ?_
    rintro e w4 ⟨rfl, h4⟩
    go_wp2_with fail
    refine (HD.out _ h4.1).mono ?_
    rintro e w5 ⟨rfl, b5⟩
    go_wp2
    go_ret2
    exact ⟨rfl, b5.bk' h4.1, Bx.tr (Bx.tr (Blw.bx K.out.2 b) h4.2) (Blw.bx b5 b)⟩
end Go.Proofs.YtkeanpabacfdlaaGreatDoor
