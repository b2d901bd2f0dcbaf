import Derived.Test.YtkeanpabacfdlaaGreatDoorW15
namespace Go.Proofs.YtkeanpabacfdlaaGreatDoor
set_option linter.unusedVariables false
set_option linter.unusedSimpArgs false
open Go.RowKit
variable {xt : Ext}
attribute [local go_sem ↓] Go.wp_at_zero Go.wp_at_succ run_load63 run_store63
attribute [local go_sem] blkOf_mk offOf_mk isPt_mk isRow_pc Has_drew HasW_drew rowOf_drew HasW_new

/-- What a cart has, as text. -/
def Pc.sumsTo (p : Pc) (c : Int) : Nat → List UInt8
  | 0 => []
  | k + 1 => if p.anyTo c (k : Int) 27 then (if (p.sumsTo c k).isEmpty then [] else p.sumsTo c k ++ [44]) ++ [itemB k] ++ Lib.itoa (p.sumTo c (k : Int) 27) else p.sumsTo c k

theorem sumsTo_len (p : Pc) (hp : p.ok) (c : Int) (k : Nat) : (p.sumsTo c k).length ≤ 7 * k := by
  induction k with
  | zero => simp [Pc.sumsTo]
  | succ k ih =>
    have hb := sumTo_bd p hp c (k : Int) 27 (by omega)
    have hl := itoa_len (p.sumTo c (k : Int) 27) (by omega) (by omega)
    simp only [Pc.sumsTo]
    split
    · split <;> simp <;> omega
    · omega

set_option maxRecDepth 100000 in
set_option maxHeartbeats 1000000 in
theorem sums_any (b me n : Nat) (p : Pc) (c : Int) (w : World) (hp : p.ok) (ht : Tab Tryz.prog w) (h : w.heap[b]? = some (.cells (repArr me n p xt) 99)) :
    Calls Tryz.prog 73 #[.pointer (some ⟨b, 0, none⟩), .int .i64 c] w fun e w' => e = .returned (.string ⟨(p.sumsTo c 4).toArray⟩) ∧ Blw w w' := by
  have H := hid h
  have HP := hid hp
  have HTb := hid ht
  clear h hp ht
  go_enter Tryz.func73, Tryz.ntmps73
  go_wp2
  go_loopw [5, 6] (fun s i wr => ∃ k : Nat, k ≤ 4 ∧ i = .int .i64 k ∧ s = .string ⟨(p.sumsTo c k).toArray⟩ ∧ Blw w wr) (fun _ i _ => 4 - (intOf i).toNat)
  case atStart => exact ⟨0, by omega, rfl, rfl, Blw.rfl _⟩
  case round =>
    obtain ⟨k, hk, rfl, rfl, hb⟩ := hrel
    have B := hid hb
    by_cases hlt : k < 4
    · have HS := hid (fun wx => sum_any p HP.out c (k : Int) wx)
      have g := hb.bk' H.out
      have hrow := rowOf_rep g
      have hhas := Has_rep g
      have hln := sumsTo_len p HP.out c k
      have hbd := sumTo_bd p HP.out c (k : Int) 27 (by omega)
      have hil := itoa_len (p.sumTo c (k : Int) 27) (by omega) (by omega)
      have HX : Hid (p.sumsTo c (k + 1) = if p.anyTo c (k : Int) 27 then (if (p.sumsTo c k).isEmpty then [] else p.sumsTo c k ++ [44]) ++ [itemB k] ++ Lib.itoa (p.sumTo c (k : Int) 27) else p.sumsTo c k) := rfl
      have HI := hid (fun wx htx => itoa_any (p.sumTo c (k : Int) 27) wx (by omega) (by omega) htx)
      have HL := hid (fun wx => itemLetter_any (k : Int) wx (by omega) (by omega))
      rw [Int.toNat_natCast] at HL
      generalize p.sumsTo c k = tx at *
      generalize p.sumTo c (k : Int) 27 = sm at *
      generalize Lib.itoa sm = il at *
      clear hb g hbd
      go_wp2_with fail
      refine (HS.out _).mono ?_
      rintro e w1 ⟨rfl, b1⟩
      have B1 := hid (B.out.tr b1)
      clear b1 hrow hhas
      cases hf : p.anyTo c (k : Int) 27
      · have HF := hid hf
        clear hf
        go_wp2
        go_roundw
        case rel => exact ⟨k + 1, by omega, by go_num, by rw [HX.out, HF.out]; rfl, B1.out⟩
        case measure => simp [intOf]; omega
      · have HF := hid hf
        clear hf
        cases he : tx.isEmpty
        · have HE := hid he
          go_wp2_with fail
          refine (HL.out _).mono ?_
          rintro e w2 ⟨rfl, b2⟩
          have B2 := hid (B1.out.tr b2)
          clear b2
          go_wp2_with fail
          refine (HI.out _ (HTb.out.blw B2.out)).mono ?_
          rintro e w3 ⟨rfl, b3⟩
          have B3 := hid (B2.out.tr b3)
          clear b3
          go_wp2
          go_roundw
          case rel => exact ⟨k + 1, by omega, by go_num, by rw [HX.out, HF.out, HE.out]; simp [bytes_app], B3.out⟩
          case measure => simp [intOf]; omega
        · have HE := hid he
          have he2 : tx = [] := by simpa using he
          subst he2
          clear he
          go_wp2_with fail
          refine (HL.out _).mono ?_
          rintro e w2 ⟨rfl, b2⟩
          have B2 := hid (B1.out.tr b2)
          clear b2
          go_wp2_with fail
          refine (HI.out _ (HTb.out.blw B2.out)).mono ?_
          rintro e w3 ⟨rfl, b3⟩
          have B3 := hid (B2.out.tr b3)
          clear b3
          go_wp2
          go_roundw
          case rel => exact ⟨k + 1, by omega, by go_num, by rw [HX.out, HF.out]; simp [bytes_app], B3.out⟩
          case measure => simp [intOf]; omega
    · have hk4 : k = 4 := by omega
      subst hk4
      go_wp2
      go_ret
      exact ⟨rfl, B.out⟩

def Ext.zero : Ext := ⟨0, []⟩
theorem zero65 : Tryz.zeroCells99 = repArr 0 0 Pc.empty Ext.zero := by kernel_rfl
theorem rep_set2 (a b me n : Nat) (p : Pc) : ((repArr a b p xt).setIfInBounds 0 (.int .i64 me)).setIfInBounds 1 (.int .i64 n) = repArr me n p xt := by
  simp [repArr, repCells]

set_option maxRecDepth 100000 in
set_option maxHeartbeats 400000 in
theorem new_yes (me n : Nat) (w : World) (hn : n ≤ 3) (hm : me < n) :
    Calls Tryz.prog 21 #[.int .i64 me, .int .i64 n] w fun e w' => e = .returned (.tuple #[.pointer (some ⟨w.heap.size, 0, none⟩), .int .i64 0]) ∧ w' = w.alloc (.cells (repArr me n Pc.empty Ext.zero) 99) := by
  have h1 : decide ((n : Int) < 1) = false := by simp; omega
  have h2 : decide ((3 : Int) < (n : Int)) = false := by simp; omega
  have h3 : decide ((me : Int) < 0) = false := by rw [decide_eq_false_iff_not]; omega
  have h4 : decide ((n : Int) ≤ (me : Int)) = false := by simp; omega
  go_enter Tryz.func21, Tryz.ntmps21
  go_wp2
  go_ret2
  exact ⟨rfl, by rw [zero65, rep_set2]⟩

def newOk (me n : Int) : Bool := decide (1 ≤ n) && decide (n ≤ 3) && decide (0 ≤ me) && decide (me < n)

set_option maxRecDepth 100000 in
set_option maxHeartbeats 400000 in
theorem new_no (me n : Int) (w : World) (h : newOk me n = false) :
    Calls Tryz.prog 21 #[.int .i64 me, .int .i64 n] w fun e w' => e = .returned (.tuple #[.pointer none, .int .i64 1]) ∧ w' = w := by
  by_cases g1 : n < 1
  · have h1 : decide (n < 1) = true := by simpa using g1
    clear h
    go_enter Tryz.func21, Tryz.ntmps21
    go_wp2
    go_ret2
    exact ⟨rfl, rfl⟩
  · have h1 : decide (n < 1) = false := by simpa using g1
    by_cases g2 : 3 < n
    · have h2 : decide (3 < n) = true := by simpa using g2
      clear h
      go_enter Tryz.func21, Tryz.ntmps21
      go_wp2
      go_ret2
      exact ⟨rfl, rfl⟩
    · have h2 : decide (3 < n) = false := by simpa using g2
      by_cases g3 : me < 0
      · have h3 : decide (me < 0) = true := by simpa using g3
        clear h
        go_enter Tryz.func21, Tryz.ntmps21
        go_wp2
        go_ret2
        exact ⟨rfl, rfl⟩
      · have h3 : decide (me < 0) = false := by simpa using g3
        have g4 : n ≤ me := by
          simp only [newOk, Bool.and_eq_false_iff, decide_eq_false_iff_not] at h
          omega
        have h4 : decide (n ≤ me) = true := by simpa using g4
        clear h
        go_enter Tryz.func21, Tryz.ntmps21
        go_wp2
        go_ret2
        exact ⟨rfl, rfl⟩
end Go.Proofs.YtkeanpabacfdlaaGreatDoor
