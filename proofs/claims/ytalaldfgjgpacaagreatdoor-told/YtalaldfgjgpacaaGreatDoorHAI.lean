import Derived.Test.YtalaldfgjgpacaaGreatDoorHAE
import Derived.Test.YtalaldfgjgpacaaGreatDoorHAH
import Derived.Deep.RegionWith
namespace Go.Proofs.YtalaldfgjgpacaaGreatDoor
set_option linter.unusedVariables false
set_option linter.unusedSimpArgs false
open Go.RowKit
variable {xt : Ext}
attribute [local go_sem ↓] Go.wp_at_zero Go.wp_at_succ run_load63 run_store63
attribute [local go_sem] blkOf_mk offOf_mk isPt_mk isRow_pc Has_drew HasW_drew rowOf_drew HasW_new

/-- What a cart has, as text. -/
def Pc.sumsTo (p : Pc) (c : Int) : Nat → List UInt8
  | 0 => []
  | k + 1 => if p.anyTo c (k : Int) 27 then (if (p.sumsTo c k).isEmpty then [] else p.sumsTo c k ++ [44]) ++ [itemB k] ++ Lib.itoa (p.sumTo c (k : Int) 27) else p.sumsTo c k

theorem sumsTo_len (p : Pc) (hp : p.ok) (c : Int) (k : Nat) : (p.sumsTo c k).length ≤ 7 * k := by
  induction k with
  | zero => simp [Pc.sumsTo]
  | succ k ih =>
    have hb := sumTo_bd p hp c (k : Int) 27 (by omega)
    have hl := itoa_len (p.sumTo c (k : Int) 27) (by omega) (by omega)
    simp only [Pc.sumsTo]
    split
    · split <;> simp <;> omega
    · omega

set_option maxRecDepth 100000 in
set_option maxHeartbeats 1000000 in
theorem sums_any (b me n : Nat) (p : Pc) (c : Int) (w : World) (hp : p.ok) (ht : Tab Tryz.prog w) (h : w.heap[b]? = some (.cells (repArr me n p xt) 69)) :
    Calls Tryz.prog 99 #[.pointer (some ⟨b, 0, none⟩), .int .i64 c] w fun e w' => e = .returned (.string ⟨(p.sumsTo c 4).toArray⟩) ∧ Blw w w' := by
  have H := hid h
  have HP := hid hp
  have HTb := hid ht
  clear h hp ht
  go_enter Tryz.func99, Tryz.ntmps99
  go_wp2
  go_loopw [5, 6] (fun s i wr => ∃ k : Nat, k ≤ 4 ∧ i = .int .i64 k ∧ s = .string ⟨(p.sumsTo c k).toArray⟩ ∧ Blw w wr) (fun _ i _ => 4 - (intOf i).toNat)
  case atStart => exact ⟨0, by omega, rfl, rfl, Blw.rfl _⟩
  case round =>
    obtain ⟨k, hk, rfl, rfl, hb⟩ := hrel
    have B := hid hb
    by_cases hlt : k < 4
    · have HS := hid (fun wx => sum_any p HP.out c (k : Int) wx)
      have g := hb.bk' H.out
      have hrow := rowOf_rep g
      have hhas := Has_rep g
      have hln := sumsTo_len p HP.out c k
      have hbd := sumTo_bd p HP.out c (k : Int) 27 (by omega)
      have hil := itoa_len (p.sumTo c (k : Int) 27) (by omega) (by omega)
      have HX : Hid (p.sumsTo c (k + 1) = if p.anyTo c (k : Int) 27 then (if (p.sumsTo c k).isEmpty then [] else p.sumsTo c k ++ [44]) ++ [itemB k] ++ Lib.itoa (p.sumTo c (k : Int) 27) else p.sumsTo c k) := rfl
      have HI := hid (fun wx htx => itoa_any (p.sumTo c (k : Int) 27) wx (by omega) (by omega) htx)
      have HL := hid (fun wx => itemLetter_any (k : Int) wx (by omega) (by omega))
      rw [Int.toNat_natCast] at HL
      generalize p.sumsTo c k = tx at *
      generalize p.sumTo c (k : Int) 27 = sm at *
      generalize Lib.itoa sm = il at *
      clear hb g hbd
      go_wp2_with fail
      refine (HS.out _).mono ?_
      rintro e w1 ⟨rfl, b1⟩
      have B1 := hid (B.out.tr b1)
      clear b1 hrow hhas
      cases hf : p.anyTo c (k : Int) 27
      · have HF := hid hf
        clear hf
        go_wp2
        go_roundw
        case rel => exact ⟨k + 1, by omega, by go_num, by rw [HX.out, HF.out]; rfl, B1.out⟩
        case measure => simp [intOf]; omega
      · have HF := hid hf
        clear hf
        cases he : tx.isEmpty
        · have HE := hid he
          go_wp2_with fail
          refine (HL.out _).mono ?_
          rintro e w2 ⟨rfl, b2⟩
          have B2 := hid (B1.out.tr b2)
          clear b2
          go_wp2_with fail
          refine (HI.out _ (HTb.out.blw B2.out)).mono ?_
          rintro e w3 ⟨rfl, b3⟩
          have B3 := hid (B2.out.tr b3)
          clear b3
          go_wp2
          go_roundw
          case rel => exact ⟨k + 1, by omega, by go_num, by rw [HX.out, HF.out, HE.out]; simp [bytes_app], B3.out⟩
          case measure => simp [intOf]; omega
        · have HE := hid he
          have he2 : tx = [] := by simpa using he
          subst he2
          clear he
          go_wp2_with fail
          refine (HL.out _).mono ?_
          rintro e w2 ⟨rfl, b2⟩
          have B2 := hid (B1.out.tr b2)
          clear b2
          go_wp2_with fail
          refine (HI.out _ (HTb.out.blw B2.out)).mono ?_
          rintro e w3 ⟨rfl, b3⟩
          have B3 := hid (B2.out.tr b3)
          clear b3
          go_wp2
          go_roundw
          case rel => exact ⟨k + 1, by omega, by go_num, by rw [HX.out, HF.out]; simp [bytes_app], B3.out⟩
          case measure => simp [intOf]; omega
    · have hk4 : k = 4 := by omega
      subst hk4
      go_wp2
      go_ret
      exact ⟨rfl, B.out⟩

def Ext.zero : Ext := ⟨0, [], [], fun _ => 0⟩
theorem zero65 : Tryz.zeroCells69 = repArr 0 0 Pc.empty Ext.zero := by kernel_rfl
theorem rep_set2 (a b me n : Nat) (p : Pc) : ((repArr a b p xt).setIfInBounds 0 (.int .i64 me)).setIfInBounds 1 (.int .i64 n) = repArr me n p xt := by
  simp [repArr, repCells]

set_option maxRecDepth 100000 in
set_option maxHeartbeats 400000 in
theorem new_yes (me n : Nat) (w : World) (hn : n ≤ 3) (hm : me < n) :
    Calls Tryz.prog 16 #[.int .i64 me, .int .i64 n] w fun e w' => e = .returned (.tuple #[.pointer (some ⟨w.heap.size, 0, none⟩), .int .i64 0]) ∧ w' = w.alloc (.cells (repArr me n Pc.empty Ext.zero) 69) := by
  have h1 : decide ((n : Int) < 1) = false := by simp; omega
  have h2 : decide ((3 : Int) < (n : Int)) = false := by simp; omega
  have h3 : decide ((me : Int) < 0) = false := by rw [decide_eq_false_iff_not]; omega
  have h4 : decide ((n : Int) ≤ (me : Int)) = false := by simp; omega
  go_enter Tryz.func16, Tryz.ntmps16
  go_wp2
  go_ret2
  exact ⟨rfl, by rw [zero65, rep_set2]⟩

def newOk (me n : Int) : Bool := decide (1 ≤ n) && decide (n ≤ 3) && decide (0 ≤ me) && decide (me < n)

set_option maxRecDepth 100000 in
set_option maxHeartbeats 400000 in
theorem new_no (me n : Int) (w : World) (h : newOk me n = false) :
    Calls Tryz.prog 16 #[.int .i64 me, .int .i64 n] w fun e w' => e = .returned (.tuple #[.pointer none, .int .i64 1]) ∧ w' = w := by
  by_cases g1 : n < 1
  · have h1 : decide (n < 1) = true := by simpa using g1
    clear h
    go_enter Tryz.func16, Tryz.ntmps16
    go_wp2
    go_ret2
    exact ⟨rfl, rfl⟩
  · have h1 : decide (n < 1) = false := by simpa using g1
    by_cases g2 : 3 < n
    · have h2 : decide (3 < n) = true := by simpa using g2
      clear h
      go_enter Tryz.func16, Tryz.ntmps16
      go_wp2
      go_ret2
      exact ⟨rfl, rfl⟩
    · have h2 : decide (3 < n) = false := by simpa using g2
      by_cases g3 : me < 0
      · have h3 : decide (me < 0) = true := by simpa using g3
        clear h
        go_enter Tryz.func16, Tryz.ntmps16
        go_wp2
        go_ret2
        exact ⟨rfl, rfl⟩
      · have h3 : decide (me < 0) = false := by simpa using g3
        have g4 : n ≤ me := by
          simp only [newOk, Bool.and_eq_false_iff, decide_eq_false_iff_not] at h
          omega
        have h4 : decide (n ≤ me) = true := by simpa using g4
        clear h
        go_enter Tryz.func16, Tryz.ntmps16
        go_wp2
        go_ret2
        exact ⟨rfl, rfl⟩
end Go.Proofs.YtalaldfgjgpacaaGreatDoor

namespace Go.Proofs.YtalaldfgjgpacaaGreatDoor
set_option linter.unusedVariables false
set_option linter.unusedSimpArgs false
open Go.RowKit
variable {xt : Ext}
attribute [local go_sem ↓] Go.wp_at_zero Go.wp_at_succ run_load63 run_store63
attribute [local go_sem] blkOf_mk offOf_mk isPt_mk isRow_pc Has_drew HasW_drew rowOf_drew HasW_new

/-- What a client's call is answered with, and what is held behind it. -/
def evPut (me n : Nat) (p taken : Pc) (l : List UInt8) (c it v : Int) : Pc := if evErr me n p l = 0 then p.join (taken.put me (p.count (me : Int)) ⟨true, true, c, it, v⟩) else p
def evTake (me n : Nat) (p taken : Pc) (l : List UInt8) : Pc := if evErr me n p l = 0 then p.join (taken.put me (p.count (me : Int)) { taken me (p.count (me : Int)) with known := true }) else p
def evTok (me n : Nat) (p q : Pc) (l : List UInt8) : List UInt8 := if evErr me n p l = 0 then q.digsTo n else []

/-- What stands beside behind it. -/
def evXp (me n : Nat) (p taken : Pc) (x : Ext) (l : List UInt8) (c it v : Int) : Ext := if evErr me n p l = 0 then x.next (taken.put me (p.count (me : Int)) ⟨true, true, c, it, v⟩) else x
def evXt (me n : Nat) (p taken : Pc) (x : Ext) (l : List UInt8) : Ext := if evErr me n p l = 0 then x.next (taken.put me (p.count (me : Int)) { taken me (p.count (me : Int)) with known := true }) else x

/-- Dots without entries. -/
def Pc.bare (q : Pc) : Prop := ∀ r i, r < 3 → i < 9 → (q r i).filled = false
theorem bare_empty : Pc.empty.bare := fun _ _ _ _ => rfl
theorem bare_dotsOf (p : Pc) (c it : Int) : (p.dotsOf c it).bare := fun r i _ _ => by unfold Pc.dotsOf; split <;> rfl
theorem bare_join {p q : Pc} (hp : p.bare) (hq : q.bare) : (p.join q).bare := fun r i hr hi => by
  unfold Pc.join joinSl
  split
  · split
    · exact hp r i hr hi
    · rfl
  · exact hq r i hr hi
theorem bare_cart (p : Pc) (c : Int) (k : Nat) : (p.cartTo c k).bare := by
  induction k with
  | zero => exact bare_empty
  | succ k ih => exact bare_join ih (bare_dotsOf p c _)
theorem bare_put {q : Pc} (hq : q.bare) (k m : Nat) (c it v : Int) (hc0 : 0 ≤ c) (hc1 : c < 3) (hi0 : 0 ≤ it) (hi1 : it < 4) (hv0 : -99 ≤ v) (hv1 : v ≤ 99) : (q.put k m ⟨true, true, c, it, v⟩).ok := by
  intro r i hr hi hf
  unfold Pc.put at hf ⊢
  split at hf
  · rename_i e; simp only [e, and_self, if_true]; exact ⟨trivial, hc0, hc1, hi0, hi1, hv0, hv1⟩
  · rw [hq r i hr hi] at hf; cases hf
theorem bare_put' {q : Pc} (hq : q.bare) (k m : Nat) (hk : k < 3) (hm : m < 9) : (q.put k m { q k m with known := true }).ok := by
  intro r i hr hi hf
  unfold Pc.put at hf
  split at hf
  · rw [show ({ q k m with known := true } : Sl).filled = (q k m).filled from rfl, hq k m hk hm] at hf; cases hf
  · rw [hq r i hr hi] at hf; cases hf
theorem evErr_lt {me n : Nat} {p : Pc} {l : List UInt8} (h : evErr me n p l = 0) : p.count (me : Int) < 9 := by
  rcases Nat.lt_or_ge (p.count (me : Int)) 9 with h9 | h9
  · exact h9
  · unfold evErr at h
    by_cases ht : tokErr n p l = 0
    · rw [if_pos ht, if_pos h9] at h; cases h
    · rw [if_neg ht] at h; exact absurd h ht

theorem RepTo.blw {b me n : Nat} {p : Pc} {w w' : World} (h : w.heap[b]? = some (.cells (repArr me n p xt) 69)) (hb : Blw w w') : RepTo b me n p xt w w' := ⟨hb.bk' h, hb.bx b⟩

theorem putEvent_any (b me n : Nat) (p q : Pc) (s : ByteArray) (c it v : Int) (w : World) (hn : n ≤ 3) (hme : me < n) (hs : s.size ≤ maxLen) (h : w.heap[b]? = some (.cells (repArr me n p xt) 69))
    (hc0 : 0 ≤ c) (hc1 : c < 3) (hi0 : 0 ≤ it) (hi1 : it < 4) (hv0 : -99 ≤ v) (hv1 : v ≤ 99) (hq : q.bare) (hx : xt.small) (ht : Tab Tryz.prog w) :
    Calls Tryz.prog 89 #[.pointer (some ⟨b, 0, none⟩), .string s, .agg q.arr, .agg #[.int .i64 c, .int .i64 it, .int .i64 v]] w fun e w' =>
      e = .returned (.tuple #[.string ⟨(evTok me n p (evPut me n p q s.data.toList c it v) s.data.toList).toArray⟩, .int .i64 (evErr me n p s.data.toList)]) ∧ RepTo b me n (evPut me n p q s.data.toList c it v) (evXp me n p q xt s.data.toList c it v) w w' := by
  by_cases hE : evErr me n p s.data.toList = 0
  · unfold evTok evPut
    rw [if_pos hE, if_pos hE, hE]
    rw [evXp, if_pos hE]
    exact putEvent_yes b me n p q s c it v w hn hme hs h hE hc0 hc1 hi0 hi1 hv0 hv1 (bare_put hq _ _ _ _ _ hc0 hc1 hi0 hi1 hv0 hv1) hx ht
  · unfold evTok evPut
    rw [if_neg hE, if_neg hE]
    rw [evXp, if_neg hE]
    exact (putEvent_no b me n p q s c it v w hn hs h hE).mono fun _ _ h' => ⟨h'.1, RepTo.blw h h'.2⟩

theorem takeEvent_any (b me n : Nat) (p q : Pc) (s : ByteArray) (w : World) (hn : n ≤ 3) (hme : me < n) (hs : s.size ≤ maxLen) (h : w.heap[b]? = some (.cells (repArr me n p xt) 69)) (hq : q.bare) (hx : xt.small) (ht : Tab Tryz.prog w) :
    Calls Tryz.prog 95 #[.pointer (some ⟨b, 0, none⟩), .string s, .agg q.arr] w fun e w' =>
      e = .returned (.tuple #[.string ⟨(evTok me n p (evTake me n p q s.data.toList) s.data.toList).toArray⟩, .int .i64 (evErr me n p s.data.toList)]) ∧ RepTo b me n (evTake me n p q s.data.toList) (evXt me n p q xt s.data.toList) w w' := by
  by_cases hE : evErr me n p s.data.toList = 0
  · unfold evTok evTake
    rw [if_pos hE, if_pos hE, hE]
    rw [evXt, if_pos hE]
    exact takeEvent_yes b me n p q s w hn hme hs h hE (bare_put' hq _ _ (by omega) (evErr_lt hE)) hx ht
  · unfold evTok evTake
    rw [if_neg hE, if_neg hE]
    rw [evXt, if_neg hE]
    exact (takeEvent_no b me n p q s w hn hs h hE).mono fun _ _ h' => ⟨h'.1, RepTo.blw h h'.2⟩

/-- Behind new blocks of the call's own. -/
theorem RepTo.after {b me n : Nat} {q : Pc} {y : Ext} {w w1 w2 : World} (hb : Blw w w1) (h : RepTo b me n q y w1 w2) : RepTo b me n q y w w2 := ⟨h.1, (hb.bx b).tr h.2⟩

set_option maxRecDepth 100000 in
set_option maxHeartbeats 400000 in
theorem add_yes (b me n : Nat) (p : Pc) (s : ByteArray) (c it v : Int) (w : World) (hn : n ≤ 3) (hme : me < n) (hs : s.size ≤ maxLen) (h : w.heap[b]? = some (.cells (repArr me n p xt) 69))
    (hc0 : 0 ≤ c) (hc1 : c < 3) (hi0 : 0 ≤ it) (hi1 : it < 4) (hv0 : -99 ≤ v) (hv1 : v ≤ 99) (hx : xt.small) (ht : Tab Tryz.prog w) :
    Calls Tryz.prog 41 #[.pointer (some ⟨b, 0, none⟩), .string s, .int .i64 c, .int .i64 it, .int .i64 v] w fun e w' =>
      e = .returned (.tuple #[.string ⟨(evTok me n p (evPut me n p Pc.empty s.data.toList c it v) s.data.toList).toArray⟩, .int .i64 (evErr me n p s.data.toList)]) ∧ RepTo b me n (evPut me n p Pc.empty s.data.toList c it v) (evXp me n p Pc.empty xt s.data.toList c it v) w w' := by
  have HPl := hid (isPlace_any c it w)
  rw [show (itemB4 it && cartB3 c) = true by simp [itemB4, cartB3]; omega] at HPl
  have HPu := hid (fun wx hx' ht' => putEvent_any b me n p Pc.empty s c it v wx hn hme hs hx' hc0 hc1 hi0 hi1 hv0 hv1 bare_empty hx ht')
  rw [← zero63] at HPu
  have d1 : decide (v < -99) = false := by simp; omega
  have d2 : decide (99 < v) = false := by simp; omega
  have hbl := lt_of_blk h
  have H := hid h
  clear h
  have TB := hid ht
  clear ht hx
  go_enter Tryz.func41, Tryz.ntmps41
  go_wp2_with fail
  refine HPl.out.mono ?_
  rintro e w1 ⟨rfl, hw1⟩
  subst w1
  go_wp2_with fail
  refine (HPu.out _ (hp_old _ hbl H.out) (TB.out.blw ((Blw.rfl _).al _))).mono ?_
  rintro e w2 ⟨rfl, h2⟩
  go_wp2
  go_ret2
  exact ⟨rfl, h2.after ((Blw.rfl _).al _)⟩

set_option maxRecDepth 100000 in
set_option maxHeartbeats 400000 in
theorem add_no (b : Nat) (s : ByteArray) (c it v : Int) (w : World) (hno : ¬ (0 ≤ c ∧ c < 3 ∧ 0 ≤ it ∧ it < 4 ∧ -99 ≤ v ∧ v ≤ 99)) :
    Calls Tryz.prog 41 #[.pointer (some ⟨b, 0, none⟩), .string s, .int .i64 c, .int .i64 it, .int .i64 v] w fun e w' => e = .returned (.tuple #[.string ⟨#[]⟩, .int .i64 1]) ∧ w' = w := by
  have HPl := hid (isPlace_any c it w)
  by_cases hp : (itemB4 it && cartB3 c) = true
  · rw [hp] at HPl
    have hp' : 0 ≤ it ∧ it < 4 ∧ 0 ≤ c ∧ c < 3 := by simp [itemB4, cartB3] at hp; omega
    clear hp
    by_cases g1 : v < -99
    · have d1 : decide (v < -99) = true := by simpa using g1
      clear hno hp'
      go_enter Tryz.func41, Tryz.ntmps41
      go_wp2_with fail
      refine HPl.out.mono ?_
      rintro e w1 ⟨rfl, hw1⟩
      subst w1
      go_wp2
      go_ret2
      exact ⟨rfl, rfl⟩
    · have d1 : decide (v < -99) = false := by simpa using g1
      have g2 : 99 < v := by omega
      have d2 : decide (99 < v) = true := by simpa using g2
      clear hno hp'
      go_enter Tryz.func41, Tryz.ntmps41
      go_wp2_with fail
      refine HPl.out.mono ?_
      rintro e w1 ⟨rfl, hw1⟩
      subst w1
      go_wp2
      go_ret2
      exact ⟨rfl, rfl⟩
  · rw [show (itemB4 it && cartB3 c) = false by simpa using hp] at HPl
    clear hno hp
    go_enter Tryz.func41, Tryz.ntmps41
    go_wp2_with fail
    refine HPl.out.mono ?_
    rintro e w1 ⟨rfl, hw1⟩
    subst w1
    go_wp2
    go_ret2
    exact ⟨rfl, rfl⟩

set_option maxRecDepth 100000 in
set_option maxHeartbeats 400000 in
theorem set_yes (b me n : Nat) (p : Pc) (s : ByteArray) (c it v : Int) (w : World) (hn : n ≤ 3) (hme : me < n) (hs : s.size ≤ maxLen) (h : w.heap[b]? = some (.cells (repArr me n p xt) 69))
    (hc0 : 0 ≤ c) (hc1 : c < 3) (hi0 : 0 ≤ it) (hi1 : it < 4) (hv0 : 0 ≤ v) (hv1 : v ≤ 99) (hx : xt.small) (ht : Tab Tryz.prog w) :
    Calls Tryz.prog 43 #[.pointer (some ⟨b, 0, none⟩), .string s, .int .i64 c, .int .i64 it, .int .i64 v] w fun e w' =>
      e = .returned (.tuple #[.string ⟨(evTok me n p (evPut me n p (p.dotsOf c it) s.data.toList c it v) s.data.toList).toArray⟩, .int .i64 (evErr me n p s.data.toList)]) ∧ RepTo b me n (evPut me n p (p.dotsOf c it) s.data.toList c it v) (evXp me n p (p.dotsOf c it) xt s.data.toList c it v) w w' := by
  have HPl := hid (isPlace_any c it w)
  rw [show (itemB4 it && cartB3 c) = true by simp [itemB4, cartB3]; omega] at HPl
  have HPu := hid (fun wx hx' ht' => putEvent_any b me n p (p.dotsOf c it) s c it v wx hn hme hs hx' hc0 hc1 hi0 hi1 (by omega) hv1 (bare_dotsOf _ _ _) hx ht')
  have HDo := hid (fun wx => dotsOf_any p c it wx)
  have d1 : decide (v < 0) = false := by simp; omega
  have d2 : decide (99 < v) = false := by simp; omega
  have hbl := lt_of_blk h
  have H := hid h
  have g1 : (w.alloc (.cells #[.int .i64 c, .int .i64 it, .int .i64 v] 59)).heap[b]? = some (.cells (repArr me n p xt) 69) := hp_old _ hbl h
  have H1 := hid g1
  have hrow := rowOf_rep g1
  have hhas := Has_rep g1
  clear h g1
  have TB := hid ht
  clear ht hx
  go_enter Tryz.func43, Tryz.ntmps43
  go_wp2_with fail
  refine HPl.out.mono ?_
  rintro e w1 ⟨rfl, hw1⟩
  subst w1
  go_wp2_with fail
  refine (HDo.out _).mono ?_
  rintro e w2 ⟨rfl, b2⟩
  have k0 := b2.bk' H1.out
  have k1 : w2.heap[w.heap.size]? = some (.cells #[.int .i64 c, .int .i64 it, .int .i64 v] 59) := b2.bk' (hp_new _ _)
  have k0' : (putRowAt (w2.alloc (.cells Tryz.zeroCells65 65)) w2.heap.size 0 (.agg (p.dotsOf c it).arr)).heap[b]? = some (.cells (repArr me n p xt) 69) := by rw [put_ne (Nat.ne_of_lt (lt_of_blk k0))]; exact hp_old _ (lt_of_blk k0) k0
  have k1' : (putRowAt (w2.alloc (.cells Tryz.zeroCells65 65)) w2.heap.size 0 (.agg (p.dotsOf c it).arr)).heap[w.heap.size]? = some (.cells #[.int .i64 c, .int .i64 it, .int .i64 v] 59) := by rw [put_ne (Nat.ne_of_lt (lt_of_blk k1))]; exact hp_old _ (lt_of_blk k1) k1
  have r3 := rowOf_pc (put_new (w := w2) (q := p.dotsOf c it))
  have h3 := Has_pc (put_new (w := w2) (q := p.dotsOf c it))
  have e0 : (putRowAt (w2.alloc (.cells Tryz.zeroCells65 65)) w2.heap.size 0 (.agg (p.dotsOf c it).arr)).cell? ⟨w.heap.size, 0, none⟩ = some (.int .i64 c) := blk_cell k1' 0
  have e1 : (putRowAt (w2.alloc (.cells Tryz.zeroCells65 65)) w2.heap.size 0 (.agg (p.dotsOf c it).arr)).cell? ⟨w.heap.size, 1, none⟩ = some (.int .i64 it) := blk_cell k1' 1
  have e2 : (putRowAt (w2.alloc (.cells Tryz.zeroCells65 65)) w2.heap.size 0 (.agg (p.dotsOf c it).arr)).cell? ⟨w.heap.size, 2, none⟩ = some (.int .i64 v) := blk_cell k1' 2
  have BB : Hid (Blw w (putRowAt (w2.alloc (.cells Tryz.zeroCells65 65)) w2.heap.size 0 (.agg (p.dotsOf c it).arr))) := put_blw ((((Blw.rfl _).al _).tr b2).al _) _ _ (((Blw.rfl _).al _).tr b2).sz
  have K0 := hid k0'
  clear k0 k1 k0' k1' b2 hrow hhas
  go_wp2_with fail
  refine (HPu.out _ K0.out (TB.out.blw BB.out)).mono ?_
  rintro e w3 ⟨rfl, h2⟩
  go_wp2
  go_ret2
  exact ⟨rfl, h2.after BB.out⟩

set_option maxRecDepth 100000 in
set_option maxHeartbeats 400000 in
theorem set_no (b : Nat) (s : ByteArray) (c it v : Int) (w : World) (hno : ¬ (0 ≤ c ∧ c < 3 ∧ 0 ≤ it ∧ it < 4 ∧ 0 ≤ v ∧ v ≤ 99)) :
    Calls Tryz.prog 43 #[.pointer (some ⟨b, 0, none⟩), .string s, .int .i64 c, .int .i64 it, .int .i64 v] w fun e w' => e = .returned (.tuple #[.string ⟨#[]⟩, .int .i64 1]) ∧ w' = w := by
  have HPl := hid (isPlace_any c it w)
  by_cases hp : (itemB4 it && cartB3 c) = true
  · rw [hp] at HPl
    have hp' : 0 ≤ it ∧ it < 4 ∧ 0 ≤ c ∧ c < 3 := by simp [itemB4, cartB3] at hp; omega
    clear hp
    by_cases g1 : v < 0
    · have d1 : decide (v < 0) = true := by simpa using g1
      clear hno hp'
      go_enter Tryz.func43, Tryz.ntmps43
      go_wp2_with fail
      refine HPl.out.mono ?_
      rintro e w1 ⟨rfl, hw1⟩
      subst w1
      go_wp2
      go_ret2
      exact ⟨rfl, rfl⟩
    · have d1 : decide (v < 0) = false := by simpa using g1
      have g2 : 99 < v := by omega
      have d2 : decide (99 < v) = true := by simpa using g2
      clear hno hp'
      go_enter Tryz.func43, Tryz.ntmps43
      go_wp2_with fail
      refine HPl.out.mono ?_
      rintro e w1 ⟨rfl, hw1⟩
      subst w1
      go_wp2
      go_ret2
      exact ⟨rfl, rfl⟩
  · rw [show (itemB4 it && cartB3 c) = false by simpa using hp] at HPl
    clear hno hp
    go_enter Tryz.func43, Tryz.ntmps43
    go_wp2_with fail
    refine HPl.out.mono ?_
    rintro e w1 ⟨rfl, hw1⟩
    subst w1
    go_wp2
    go_ret2
    exact ⟨rfl, rfl⟩

set_option maxRecDepth 100000 in
set_option maxHeartbeats 400000 in
theorem remove_yes (b me n : Nat) (p : Pc) (s : ByteArray) (c it : Int) (w : World) (hn : n ≤ 3) (hme : me < n) (hs : s.size ≤ maxLen) (h : w.heap[b]? = some (.cells (repArr me n p xt) 69))
    (hc0 : 0 ≤ c) (hc1 : c < 3) (hi0 : 0 ≤ it) (hi1 : it < 4) (hx : xt.small) (ht : Tab Tryz.prog w) :
    Calls Tryz.prog 45 #[.pointer (some ⟨b, 0, none⟩), .string s, .int .i64 c, .int .i64 it] w fun e w' =>
      e = .returned (.tuple #[.string ⟨(evTok me n p (evTake me n p (p.dotsOf c it) s.data.toList) s.data.toList).toArray⟩, .int .i64 (evErr me n p s.data.toList)]) ∧ RepTo b me n (evTake me n p (p.dotsOf c it) s.data.toList) (evXt me n p (p.dotsOf c it) xt s.data.toList) w w' := by
  have HPl := hid (isPlace_any c it w)
  rw [show (itemB4 it && cartB3 c) = true by simp [itemB4, cartB3]; omega] at HPl
  have HPu := hid (fun wx hx' ht' => takeEvent_any b me n p (p.dotsOf c it) s wx hn hme hs hx' (bare_dotsOf _ _ _) hx ht')
  have HDo := hid (fun wx => dotsOf_any p c it wx)
  have hbl := lt_of_blk h
  have H := hid h
  have hrow := rowOf_rep h
  have hhas := Has_rep h
  clear h
  have TB := hid ht
  clear ht hx
  go_enter Tryz.func45, Tryz.ntmps45
  go_wp2_with fail
  refine HPl.out.mono ?_
  rintro e w1 ⟨rfl, hw1⟩
  subst w1
  go_wp2_with fail
  refine (HDo.out _).mono ?_
  rintro e w2 ⟨rfl, b2⟩
  have k0 := b2.bk' H.out
  have k0' : (putRowAt (w2.alloc (.cells Tryz.zeroCells65 65)) w2.heap.size 0 (.agg (p.dotsOf c it).arr)).heap[b]? = some (.cells (repArr me n p xt) 69) := by rw [put_ne (Nat.ne_of_lt (lt_of_blk k0))]; exact hp_old _ (lt_of_blk k0) k0
  have r3 := rowOf_pc (put_new (w := w2) (q := p.dotsOf c it))
  have h3 := Has_pc (put_new (w := w2) (q := p.dotsOf c it))
  have BB : Hid (Blw w (putRowAt (w2.alloc (.cells Tryz.zeroCells65 65)) w2.heap.size 0 (.agg (p.dotsOf c it).arr))) := put_blw (b2.al _) _ _ b2.sz
  have K0 := hid k0'
  clear k0 k0' b2 hrow hhas
  go_wp2_with fail
  refine (HPu.out _ K0.out (TB.out.blw BB.out)).mono ?_
  rintro e w3 ⟨rfl, h2⟩
  go_wp2
  go_ret2
  exact ⟨rfl, h2.after BB.out⟩

set_option maxRecDepth 100000 in
set_option maxHeartbeats 400000 in
theorem remove_no (b : Nat) (s : ByteArray) (c it : Int) (w : World) (hno : ¬ (0 ≤ c ∧ c < 3 ∧ 0 ≤ it ∧ it < 4)) :
    Calls Tryz.prog 45 #[.pointer (some ⟨b, 0, none⟩), .string s, .int .i64 c, .int .i64 it] w fun e w' => e = .returned (.tuple #[.string ⟨#[]⟩, .int .i64 1]) ∧ w' = w := by
  have HPl := hid (isPlace_any c it w)
  rw [show (itemB4 it && cartB3 c) = false by simp [itemB4, cartB3]; omega] at HPl
  clear hno
  go_enter Tryz.func45, Tryz.ntmps45
  go_wp2_with fail
  refine HPl.out.mono ?_
  rintro e w1 ⟨rfl, hw1⟩
  subst w1
  go_wp2
  go_ret2
  exact ⟨rfl, rfl⟩

set_option maxRecDepth 100000 in
set_option maxHeartbeats 400000 in
theorem clear_yes (b me n : Nat) (p : Pc) (s : ByteArray) (c : Int) (w : World) (hn : n ≤ 3) (hme : me < n) (hs : s.size ≤ maxLen) (h : w.heap[b]? = some (.cells (repArr me n p xt) 69))
    (hc0 : 0 ≤ c) (hc1 : c < 3) (hx : xt.small) (ht : Tab Tryz.prog w) :
    Calls Tryz.prog 47 #[.pointer (some ⟨b, 0, none⟩), .string s, .int .i64 c] w fun e w' =>
      e = .returned (.tuple #[.string ⟨(evTok me n p (evTake me n p (p.cartTo c 4) s.data.toList) s.data.toList).toArray⟩, .int .i64 (evErr me n p s.data.toList)]) ∧ RepTo b me n (evTake me n p (p.cartTo c 4) s.data.toList) (evXt me n p (p.cartTo c 4) xt s.data.toList) w w' := by
  have HPl := hid (isCart_any c w)
  rw [show cartB3 c = true by simp [cartB3]; omega] at HPl
  have HPu := hid (fun wx hx' ht' => takeEvent_any b me n p (p.cartTo c 4) s wx hn hme hs hx' (bare_cart _ _ _) hx ht')
  have HDo := hid (dotsOfCart_any b me n p c w h)
  have H := hid h
  clear h
  have TB := hid ht
  clear ht hx
  go_enter Tryz.func47, Tryz.ntmps47
  go_wp2_with fail
  refine HPl.out.mono ?_
  rintro e w1 ⟨rfl, hw1⟩
  subst w1
  go_wp2_with fail
  refine HDo.out.mono ?_
  rintro e w2 ⟨rfl, b2⟩
  have k0 := b2.bk' H.out
  have k0' : (putRowAt (w2.alloc (.cells Tryz.zeroCells65 65)) w2.heap.size 0 (.agg (p.cartTo c 4).arr)).heap[b]? = some (.cells (repArr me n p xt) 69) := by rw [put_ne (Nat.ne_of_lt (lt_of_blk k0))]; exact hp_old _ (lt_of_blk k0) k0
  have r3 := rowOf_pc (put_new (w := w2) (q := p.cartTo c 4))
  have h3 := Has_pc (put_new (w := w2) (q := p.cartTo c 4))
  have BB : Hid (Blw w (putRowAt (w2.alloc (.cells Tryz.zeroCells65 65)) w2.heap.size 0 (.agg (p.cartTo c 4).arr))) := put_blw (b2.al _) _ _ b2.sz
  have K0 := hid k0'
  clear k0 k0' b2
  go_wp2_with fail
  refine (HPu.out _ K0.out (TB.out.blw BB.out)).mono ?_
  rintro e w3 ⟨rfl, h2⟩
  go_wp2
  go_ret2
  exact ⟨rfl, h2.after BB.out⟩

set_option maxRecDepth 100000 in
set_option maxHeartbeats 400000 in
theorem clear_no (b : Nat) (s : ByteArray) (c : Int) (w : World) (hno : ¬ (0 ≤ c ∧ c < 3)) :
    Calls Tryz.prog 47 #[.pointer (some ⟨b, 0, none⟩), .string s, .int .i64 c] w fun e w' => e = .returned (.tuple #[.string ⟨#[]⟩, .int .i64 1]) ∧ w' = w := by
  have HPl := hid (isCart_any c w)
  rw [show cartB3 c = false by simp [cartB3]; omega] at HPl
  clear hno
  go_enter Tryz.func47, Tryz.ntmps47
  go_wp2_with fail
  refine HPl.out.mono ?_
  rintro e w1 ⟨rfl, hw1⟩
  subst w1
  go_wp2
  go_ret2
  exact ⟨rfl, rfl⟩

set_option maxRecDepth 100000 in
set_option maxHeartbeats 400000 in
theorem read_yes (b me n : Nat) (p : Pc) (s : ByteArray) (c : Int) (w : World) (hn : n ≤ 3) (hs : s.size ≤ maxLen) (hp : p.ok) (ht : Tab Tryz.prog w) (h : w.heap[b]? = some (.cells (repArr me n p xt) 69))
    (hc0 : 0 ≤ c) (hc1 : c < 3) (hE : tokErr n p s.data.toList = 0) :
    Calls Tryz.prog 49 #[.pointer (some ⟨b, 0, none⟩), .string s, .int .i64 c] w fun e w' =>
      e = .returned (.tuple #[.string ⟨(p.sumsTo c 4).toArray⟩, .string ⟨(p.digsTo n).toArray⟩, .int .i64 0]) ∧ Blw w w' := by
  have HPl := hid (isCart_any c w)
  rw [show cartB3 c = true by simp [cartB3]; omega] at HPl
  have HT := hid (checkToken_any b me n p s w hn hs h)
  rw [hE] at HT
  have HS := hid (fun wx htx hx => sums_any (xt := xt) b me n p c wx hp htx hx)
  have HD := hid (fun wx hx => counts_any (xt := xt) b me n p wx hn hx)
  have H := hid h
  have HTb := hid ht
  clear h hE hp ht
  go_enter Tryz.func49, Tryz.ntmps49
  go_wp2_with fail
  refine HPl.out.mono ?_
  rintro e w1 ⟨rfl, hw1⟩
  subst w1
  go_wp2_with fail
  refine HT.out.mono ?_
  rintro e w2 ⟨rfl, b2⟩
  go_wp2_with fail
  refine (HS.out _ (HTb.out.blw b2) (b2.bk' H.out)).mono ?_
  rintro e w3 ⟨rfl, b3⟩
  have b4 := b2.tr b3
  go_wp2_with fail
  refine (HD.out _ (b4.bk' H.out)).mono ?_
  rintro e w4 ⟨rfl, b5⟩
  go_wp2
  go_ret3
  exact ⟨rfl, b4.tr b5⟩

set_option maxRecDepth 100000 in
set_option maxHeartbeats 400000 in
theorem read_stale (b me n : Nat) (p : Pc) (s : ByteArray) (c : Int) (w : World) (hn : n ≤ 3) (hs : s.size ≤ maxLen) (h : w.heap[b]? = some (.cells (repArr me n p xt) 69))
    (hc0 : 0 ≤ c) (hc1 : c < 3) (hE : tokErr n p s.data.toList ≠ 0) :
    Calls Tryz.prog 49 #[.pointer (some ⟨b, 0, none⟩), .string s, .int .i64 c] w fun e w' =>
      e = .returned (.tuple #[.string ⟨#[]⟩, .string ⟨#[]⟩, .int .i64 (tokErr n p s.data.toList)]) ∧ Blw w w' := by
  have HPl := hid (isCart_any c w)
  rw [show cartB3 c = true by simp [cartB3]; omega] at HPl
  have HT := hid (checkToken_any b me n p s w hn hs h)
  generalize tokErr n p s.data.toList = te at *
  have he : (te != 0) = true := by simp [hE]
  clear h hE
  go_enter Tryz.func49, Tryz.ntmps49
  go_wp2_with fail
  refine HPl.out.mono ?_
  rintro e w1 ⟨rfl, hw1⟩
  subst w1
  go_wp2_with fail
  refine HT.out.mono ?_
  rintro e w2 ⟨rfl, b2⟩
  go_wp2
  go_ret3
  exact ⟨rfl, b2⟩

set_option maxRecDepth 100000 in
set_option maxHeartbeats 400000 in
theorem read_no (b : Nat) (s : ByteArray) (c : Int) (w : World) (hno : ¬ (0 ≤ c ∧ c < 3)) :
    Calls Tryz.prog 49 #[.pointer (some ⟨b, 0, none⟩), .string s, .int .i64 c] w fun e w' => e = .returned (.tuple #[.string ⟨#[]⟩, .string ⟨#[]⟩, .int .i64 1]) ∧ w' = w := by
  have HPl := hid (isCart_any c w)
  rw [show cartB3 c = false by simp [cartB3]; omega] at HPl
  clear hno
  go_enter Tryz.func49, Tryz.ntmps49
  go_wp2_with fail
  refine HPl.out.mono ?_
  rintro e w1 ⟨rfl, hw1⟩
  subst w1
  go_wp2
  go_ret3
  exact ⟨rfl, rfl⟩
end Go.Proofs.YtalaldfgjgpacaaGreatDoor

namespace Go.Proofs.YtalaldfgjgpacaaGreatDoor
set_option linter.unusedVariables false
set_option linter.unusedSimpArgs false
open Go.RowKit
attribute [local go_sem ↓] Go.wp_at_zero Go.wp_at_succ run_load63 run_store63
attribute [local go_sem] blkOf_mk offOf_mk isPt_mk isRow_pc Has_drew HasW_drew rowOf_drew

theorem log_any (b me n : Nat) (p : Pc) (x : Ext) (w : World) (h : w.heap[b]? = some (.cells (repArr me n p x) 69)) : Calls Tryz.prog 17 #[.pointer (some ⟨b, 0, none⟩)] w fun e w' => e = .returned (.string ⟨x.log.toArray⟩) ∧ w' = w := by
  have c := rep_log h
  clear h
  go_enter Tryz.func17, Tryz.ntmps17
  go_wp2
  go_ret
  exact ⟨rfl, rfl⟩
/-- What Compact makes of what stands beside. -/
def Ext.compact (x : Ext) (p : Pc) : Ext := { x with log := frameL ([83] ++ lastD x.had 2 ++ p.text) }
set_option maxRecDepth 100000 in
set_option maxHeartbeats 2000000 in
theorem compact_any (b me n : Nat) (p : Pc) (x : Ext) (w : World) (hp : p.ok) (hh : x.had < 100) (ht : Tab Tryz.prog w) (h : w.heap[b]? = some (.cells (repArr me n p x) 69)) :
    Calls Tryz.prog 53 #[.pointer (some ⟨b, 0, none⟩)] w fun e w' => e = .returned (.tuple #[]) ∧ RepTo b me n p (x.compact p) w w' := by
  have H := hid h
  have TB := hid ht
  have hrow := rowOf_rep h
  have hhas := Has_rep h
  have c1 := rep_had h
  have HF := hid (fun wx hw => wholeFrame_any x.had p hp wx hh hw)
  have HN : Hid (x.compact p = { x with log := frameL ([83] ++ lastD x.had 2 ++ p.text) }) := rfl
  generalize frameL ([83] ++ lastD x.had 2 ++ p.text) = fr at *
  clear h ht hp
  go_enter Tryz.func53, Tryz.ntmps53
  go_wp2
  go_region_with (first | (go_at_call 104; refine (HF.out _ (TB.out.blw (Blw.dr (Blw.rfl _)))).mono ?_; rintro e w4 ⟨rfl, b4⟩; have c5 := rep_log (b4.bk' (show w.drew.heap[b]? = _ from H.out)); have f5 := blk_frozen (b4.bk' (show w.drew.heap[b]? = _ from H.out)) 138))
  all_goals
    go_end0
    refine ⟨rfl, ?_, ?_⟩
    · rw [HN.out]
      exact rep_put_log (b4.bk' (show w.drew.heap[b]? = _ from H.out)) fr
    · exact (Blw.bx (Blw.tr (Blw.dr (Blw.rfl _)) b4) b).sc _ _
end Go.Proofs.YtalaldfgjgpacaaGreatDoor
