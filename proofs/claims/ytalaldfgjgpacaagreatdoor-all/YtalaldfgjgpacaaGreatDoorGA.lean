import Derived.Test.YtalaldfgjgpacaaGreatDoorP0
namespace Go.Proofs.YtalaldfgjgpacaaGreatDoor
set_option linter.unusedVariables false
set_option linter.unusedSimpArgs false
open Go.RowKit
attribute [local go_sem ↓] Go.wp_at_zero Go.wp_at_succ run_load63 run_store63
attribute [local go_sem] blkOf_mk offOf_mk isPt_mk isRow_pc Has_drew HasW_drew rowOf_drew

def Pc.dotsUpTo (p : Pc) : Nat → Nat
  | 0 => 0
  | k + 1 => p.dotsUpTo k + p.count (k : Int)
theorem dotsUpTo_le (p : Pc) (k : Nat) : p.dotsUpTo k ≤ 9 * k := by
  induction k with
  | zero => simp [Pc.dotsUpTo]
  | succ k ih => rw [Pc.dotsUpTo]; have := Pc.count_le p (k : Int); omega
theorem dotsUpTo_3 (p : Pc) : p.dotsUpTo 3 = p.dots := by simp [Pc.dotsUpTo, Pc.dots]

set_option maxRecDepth 100000 in
set_option maxHeartbeats 1000000 in
theorem size_any (p : Pc) (w : World) :
    Calls Tryz.prog 77 #[.agg p.arr] w fun e w' => e = .returned (.int .i64 (p.dots : Int)) ∧ Blw w w' := by
  have H3 := hid (dotsUpTo_3 p)
  go_enter Tryz.func77, Tryz.ntmps77
  go_wp2
  go_loopw [3, 4] (fun s r wr => ∃ k : Nat, k ≤ 3 ∧ r = .int .i64 k ∧ s = .int .i64 ((p.dotsUpTo k : Nat) : Int) ∧ HasPc p w wr) (fun _ r _ => 3 - (intOf r).toNat)
  case atStart => exact ⟨0, by omega, rfl, rfl, HasPc.start p w⟩
  case round =>
    obtain ⟨k, hk, rfl, rfl, hJR⟩ := hrel
    by_cases hlt : k < 3
    · have H := hid hJR
      have hrow := rowOf_pc hJR.1
      have hhas := Has_pc hJR.1
      have hle := dotsUpTo_le p k
      have hc := Pc.count_le p (k : Int)
      have HS : Hid (p.dotsUpTo (k + 1) = p.dotsUpTo k + p.count (k : Int)) := rfl
      generalize p.dotsUpTo k = q at *
      clear hJR
      go_wp2_with fail
      refine (count_any p (k : Int) _).mono ?_
      rintro e w2 ⟨rfl, b2⟩
      have H2 := hid (H.out.on b2)
      generalize p.count (k : Int) = c at *
      clear b2 hrow hhas
      go_wp2
      go_roundw
      case rel => exact ⟨k + 1, by omega, by go_num, by rw [HS.out]; go_num, H2.out⟩
      case measure => simp [intOf]; omega
    · have hk3 : k = 3 := by omega
      subst hk3
      rw [H3.out]
      go_wp2
      go_ret
      exact ⟨rfl, hJR.2.2⟩

/-- A hole among the first slots. -/
def holeAt (p : Pc) (n : Nat) : Bool := (p.nth n).known && decide (n % 9 ≠ 0) && !(p.nth (n - 1)).known
def Pc.holeTo (p : Pc) : Nat → Bool
  | 0 => false
  | n + 1 => p.holeTo n || holeAt p n
theorem holeTo_mono (p : Pc) (k m : Nat) (h : k ≤ m) (hk : p.holeTo k = true) : p.holeTo m = true := by
  induction m with
  | zero => have : k = 0 := by omega
            subst this; exact hk
  | succ m ih =>
    by_cases e : k = m + 1
    · subst e; exact hk
    · rw [Pc.holeTo, ih (by omega)]; rfl
theorem holeTo_ri (p : Pc) (r i : Nat) (hi : i < 9) (h0 : 0 < i) : holeAt p (r * 9 + i) = ((p r i).known && !(p r (i - 1)).known) := by
  unfold holeAt
  rw [Pc.nth_ri p r i hi, show r * 9 + i - 1 = r * 9 + (i - 1) by omega, Pc.nth_ri p r (i - 1) (by omega)]
  have : decide ((r * 9 + i) % 9 ≠ 0) = true := by simp; omega
  rw [this]; simp

set_option maxRecDepth 100000 in
set_option maxHeartbeats 1000000 in
theorem hasHole_any (p : Pc) (w : World) :
    Calls Tryz.prog 75 #[.agg p.arr] w fun e w' => e = .returned (.bool (p.holeTo 27)) ∧ Blw w w' := by
  obtain ⟨t, ht⟩ : ∃ t, t = p.holeTo 27 := ⟨_, rfl⟩
  rw [← ht]
  have HT := hid ht
  have HM := hid (holeTo_mono p)
  have HB := hid (HasPc.start p w)
  clear ht
  go_enter Tryz.func75, Tryz.ntmps75
  go_wp2
  go_loop [3] (fun r => ∃ k : Nat, k ≤ 3 ∧ r = .int .i64 k ∧ p.holeTo (k * 9) = false) (fun r => 3 - (intOf r).toNat)
  case atStart => exact ⟨0, by omega, rfl, rfl⟩
  case round =>
    obtain ⟨k, hk, rfl, hd⟩ := hrel
    have HD := hid hd
    clear hd
    by_cases hlt : k < 3
    · have hd3 : decide ((k : Int) < 3) = true := by simp; omega
      go_wp2
      go_loop [4] (fun i => ∃ m : Nat, 1 ≤ m ∧ m ≤ 9 ∧ i = .int .i64 m ∧ p.holeTo (k * 9 + m) = false) (fun i => 9 - (intOf i).toNat)
      case atStart => exact ⟨1, by omega, by omega, rfl, by
        show p.holeTo (k * 9 + 1) = false
        rw [Pc.holeTo, HD.out]
        have : decide (k * 9 % 9 ≠ 0) = false := by simp
        simp [holeAt]⟩
      case round =>
        obtain ⟨m, hm1, hm, rfl, hdm⟩ := hrel
        have HDm := hid hdm
        clear hdm
        by_cases hlm : m < 9
        · obtain ⟨p0, _, _, _, _⟩ := cells5 HB.out.1 k m hlt hlm
          obtain ⟨p0', _, _, _, _⟩ := cells5 HB.out.1 k (m - 1) hlt (by omega)
          have HS : Hid (p.holeTo (k * 9 + (m + 1)) = (p.holeTo (k * 9 + m) || ((p k m).known && !(p k (m - 1)).known))) := by
            show p.holeTo (k * 9 + m + 1) = _
            rw [Pc.holeTo, holeTo_ri p k m hlm (by omega)]
          have hk0 : (0 : Int) ≤ (k : Int) := Int.natCast_nonneg _
          have hk3 : (k : Int) < 3 := by omega
          have hm0 : (0 : Int) ≤ (m : Int) := Int.natCast_nonneg _
          have hm9 : (m : Int) < 9 := by omega
          obtain ⟨m', rfl⟩ : ∃ m', m = m' + 1 := ⟨m - 1, by omega⟩
          simp only [Nat.add_sub_cancel] at p0' HS
          cases ha : (p k (m' + 1)).known
          · rw [ha] at p0 HS
            have HF : Hid (p.holeTo (k * 9 + (m' + 1 + 1)) = false) := by show _ = _; rw [HS.out, HDm.out]; rfl
            go_wp2
            go_round
            case rel => exact ⟨m' + 1 + 1, by omega, by omega, by go_num, HF.out⟩
            case measure => simp [intOf]; omega
          · rw [ha] at p0 HS
            cases hb : (p k m').known
            · rw [hb] at p0' HS
              have HF : Hid (t = true) := by
                show t = true
                rw [HT.out]; exact HM.out (k * 9 + (m' + 1 + 1)) 27 (by omega) (by rw [HS.out]; simp)
              go_wp2
              go_ret
              exact ⟨by rw [HF.out]; rfl, HB.out.2.2⟩
            · rw [hb] at p0' HS
              have HF : Hid (p.holeTo (k * 9 + (m' + 1 + 1)) = false) := by show _ = _; rw [HS.out, HDm.out]; rfl
              go_wp2
              go_round
              case rel => exact ⟨m' + 1 + 1, by omega, by omega, by go_num, HF.out⟩
              case measure => simp [intOf]; omega
        · have hm9 : m = 9 := by omega
          subst hm9
          go_wp2
          go_round
          case rel => exact ⟨k + 1, by omega, by go_num, by rw [show (k + 1) * 9 = k * 9 + 9 by omega]; exact HDm.out⟩
          case measure => simp [intOf]; omega
    · have hk3 : k = 3 := by omega
      subst hk3
      have HF : Hid (t = false) := by show t = false; rw [HT.out]; exact HD.out
      go_wp2
      go_ret
      exact ⟨by rw [HF.out]; rfl, HB.out.2.2⟩
end Go.Proofs.YtalaldfgjgpacaaGreatDoor
