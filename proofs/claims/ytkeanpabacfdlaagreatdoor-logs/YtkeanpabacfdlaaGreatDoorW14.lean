import Derived.Deep.RegionWith
import Derived.Deep.DeepCutAuto
import Derived.Test.YtkeanpabacfdlaaGreatDoorW13
namespace Go.Proofs.YtkeanpabacfdlaaGreatDoor
set_option linter.unusedVariables false
set_option linter.unusedSimpArgs false
open Go.RowKit
variable {xt : Ext}
attribute [local go_sem ↓] Go.wp_at_zero Go.wp_at_succ run_load63 run_store63
attribute [local go_sem] blkOf_mk offOf_mk isPt_mk isRow_pc Has_drew HasW_drew rowOf_drew HasW_new Has_alloc rowOf_alloc

set_option maxRecDepth 100000 in
set_option maxHeartbeats 400000 in
theorem takeEvent_no (b me n : Nat) (p q : Pc) (s : ByteArray) (w : World) (hn : n ≤ 3) (hs : s.size ≤ maxLen) (h : w.heap[b]? = some (.cells (repArr me n p xt) 99)) (hE : evErr me n p s.data.toList ≠ 0) :
    Calls Tryz.prog 69 #[.pointer (some ⟨b, 0, none⟩), .string s, .agg q.arr] w fun e w' => e = .returned (.tuple #[.string ⟨#[]⟩, .int .i64 (evErr me n p s.data.toList)]) ∧ Blw w w' := by
  have hbl := lt_of_blk h
  have HC := hid (checkEvent_any b me n p s (w.alloc (.cells q.arr 97)) hn hs (hp_old _ hbl h))
  generalize evErr me n p s.data.toList = ee at *
  have he : (ee != 0) = true := by simp [hE]
  clear hE h
  go_enter Tryz.func69, Tryz.ntmps69
  go_wp2_with fail
  refine HC.out.mono ?_
  rintro e w0 ⟨rfl, b0⟩
  go_wp2
  go_ret2
  exact ⟨rfl, Blw.tr ((Blw.rfl _).al _) b0⟩

set_option maxRecDepth 100000 in
set_option maxHeartbeats 2000000 in
theorem takeEvent_yes (b me n : Nat) (p q : Pc) (s : ByteArray) (w : World) (hn : n ≤ 3) (hme : me < n) (hs : s.size ≤ maxLen) (h : w.heap[b]? = some (.cells (repArr me n p xt) 99)) (hE : evErr me n p s.data.toList = 0) (hq : (q.put me (p.count (me : Int)) { q me (p.count (me : Int)) with known := true }).ok) (hx : xt.small) (ht : Tab Tryz.prog w) :
    Calls Tryz.prog 69 #[.pointer (some ⟨b, 0, none⟩), .string s, .agg q.arr] w fun e w' => e = .returned (.tuple #[.string ⟨((p.join (q.put me (p.count (me : Int)) { q me (p.count (me : Int)) with known := true })).digsTo n).toArray⟩, .int .i64 0]) ∧ RepTo b me n (p.join (q.put me (p.count (me : Int)) { q me (p.count (me : Int)) with known := true })) (xt.next (q.put me (p.count (me : Int)) { q me (p.count (me : Int)) with known := true })) w w' := by
  have hbl := lt_of_blk h
  have hcnt : p.count (me : Int) < 9 := by
    rcases Nat.lt_or_ge (p.count (me : Int)) 9 with h9 | h9
    · exact h9
    · unfold evErr at hE
      split at hE
      · cases hE
      · exact absurd hE ‹_›
  have H1 := hid (show (w.alloc (.cells q.arr 97)).heap[b]? = some (.cells (repArr me n p xt) 99) from hp_old _ hbl h)
  have HC := hid (checkEvent_any b me n p s (w.alloc (.cells q.arr 97)) hn hs H1.out)
  rw [hE] at HC
  have HN := hid (fun wx hx => nextNumber_any (xt := xt) b me n p wx hx)
  generalize p.count (me : Int) = d at *
  have HW := hid (fun wx => withDot_any q me d wx (by omega) hcnt)
  clear h hE
  have HQ := hid hq
  have HX := hid hx
  have TB := hid ht
  clear hq hx ht
  go_enter Tryz.func69, Tryz.ntmps69
  go_wp2_with fail
  refine HC.out.mono ?_
  rintro e w0 ⟨rfl, b0⟩
  go_wp2_with fail
  refine (HN.out _ ((b0.bk b (by simp; omega)).trans H1.out)).mono ?_
  rintro e w2 ⟨rfl, b2⟩
  have B2 := hid (b0.tr b2)
  have G0 := hid ((B2.out.bk b (by simp; omega)).trans H1.out)
  have G1 := hid ((B2.out.bk w.heap.size (by simp)).trans (hp_new _ _))
  have hrow := rowOf_pc G1.out
  have hhas := Has_pc G1.out
  have hmec := rep_me G0.out
  have HWW : Hid (Blw w w2) := Blw.tr ((Blw.rfl _).al _) B2.out
  have z0 := lt_of_blk G0.out
  have z1 := lt_of_blk G1.out
  clear b0 b2
  go_wp2_with fail
  go_cut [10] (fun s w' => ∃ nb, s = .pointer (some ⟨nb, 0, none⟩) ∧ w'.heap[nb]? = some (.cells (q.put me d { q me d with known := true }).arr 97) ∧ w'.heap[b]? = some (.cells (repArr me n p xt) 99) ∧ Blw w w')
  case first =>
    go_region_with (first | (go_at_call 110; refine (HW.out _).mono ?_; rintro e w3 ⟨rfl, b3⟩; have sz3 : w2.heap.size ≤ w3.heap.size := (by have := b3.sz; simp at this; omega); (first | (have hW3 : HasW w3 w2.heap.size 0 := HasW_of (b3.bk' (hp_new w2 (.cells Tryz.zeroCells97 97))) zle63; have R := hid (putB (q := q.put me d { q me d with known := true }) HWW.out G0.out b3)) | (have R := hid (putA (q := q.put me d { q me d with known := true }) HWW.out G0.out b3)))))
    all_goals
      go_wp2_with fail
      go_meet
      case rel => exact ⟨_, rfl, R.out⟩
  case rest =>
    obtain ⟨nb, rfl, hn1, hn2, hn3⟩ := hcut
    have hrow' := rowOf_pc hn1
    have hhas' := Has_pc hn1
    have K := hid (And.intro hn2 hn3)
    clear hn1 hn2 hn3 hrow hhas hmec
    have HL := hid (fun wx hx' ht' => learn_any b me n p (q.put me d { q me d with known := true }) xt wx HQ.out HX.out ht' hx')
    have HD := hid (fun wx hx => counts_any (xt := xt.next (q.put me d { q me d with known := true })) b me n (p.join (q.put me d { q me d with known := true })) wx hn hx)
    go_wp2_with fail
    refine (HL.out _ K.out.1 (TB.out.blw K.out.2)).mono ?_
    rintro e w4 ⟨rfl, h4⟩
    go_wp2_with fail
    refine (HD.out _ h4.1).mono ?_
    rintro e w5 ⟨rfl, b5⟩
    go_wp2
    go_ret2
    exact ⟨rfl, b5.bk' h4.1, Bx.tr (Bx.tr (Blw.bx K.out.2 b) h4.2) (Blw.bx b5 b)⟩
end Go.Proofs.YtkeanpabacfdlaaGreatDoor
