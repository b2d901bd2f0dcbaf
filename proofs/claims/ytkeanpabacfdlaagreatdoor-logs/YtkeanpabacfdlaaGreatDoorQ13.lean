import Derived.Test.YtkeanpabacfdlaaGreatDoorQ12
namespace Go.Proofs.YtkeanpabacfdlaaGreatDoor
set_option linter.unusedVariables false
set_option linter.unusedSimpArgs false
open Go.RowKit
attribute [local go_sem ↓] Go.wp_at_zero Go.wp_at_succ

set_option maxRecDepth 100000 in
set_option maxHeartbeats 1000000 in
theorem value2_any (a b : Nat) (w : World) (ha : a < 10) (hb : b < 10) :
    Calls Tryz.prog 60 #[.string ⟨#[dig a, dig b]⟩] w fun e w' => e = .returned (.int .i64 ((a * 10 + b : Nat) : Int)) ∧ w' = w := by
  obtain ⟨y, hy, h0, h1, hy0, hy1⟩ : ∃ y : ByteArray, y = ⟨#[dig a, dig b]⟩ ∧ ∃ (h0 : 0 < y.size) (h1 : 1 < y.size), y[0]'h0 = dig a ∧ y[1]'h1 = dig b := ⟨_, rfl, (show 0 < 2 by decide), (show 1 < 2 by decide), rfl, rfl⟩
  have hy2 : y.size = 2 := by rw [hy]; rfl
  rw [← hy]
  have e0 : ((y[0]'h0).toNat : Int) = 48 + a := by rw [hy0, dig_toNat a (by omega)]; omega
  have e1 : ((y[1]'h1).toNat : Int) = 48 + b := by rw [hy1, dig_toNat b (by omega)]; omega
  clear hy hy0 hy1
  go_enter Tryz.func60, Tryz.ntmps60
  go_wp2
  go_loop [3, 4] (fun n i => (i = .int .i64 0 ∧ n = .int .i64 0) ∨ (i = .int .i64 1 ∧ n = .int .i64 a) ∨ (i = .int .i64 2 ∧ n = .int .i64 ((a * 10 + b : Nat) : Int))) (fun _ i => 2 - (intOf i).toNat)
  case atStart => exact .inl ⟨rfl, rfl⟩
  case round =>
    rcases hrel with ⟨rfl, rfl⟩ | ⟨rfl, rfl⟩ | ⟨rfl, rfl⟩
    · go_wp2
      go_round
      case rel => exact .inr (.inl ⟨rfl, by go_num⟩)
      case measure => simp [intOf]
    · go_wp2
      go_round
      case rel => exact .inr (.inr ⟨rfl, by go_num⟩)
      case measure => simp [intOf]
    · go_wp2
      go_ret
      exact ⟨rfl, rfl⟩

set_option maxRecDepth 100000 in
set_option maxHeartbeats 1000000 in
theorem worth_any (s : Sl) (r i : Nat) (w : World) (hg : s.good) :
    Calls Tryz.prog 76 #[strV (s.text r i)] w fun e w' => e = .returned (.int .i64 s.value) ∧ w' = w := by
  obtain ⟨x, hx⟩ : ∃ x : Bs, x = s.text r i := ⟨_, rfl⟩
  have hv0 := hg.v0
  have hv1 := hg.v1
  have h7 : (ByteArray.mk x.toArray).size = 7 := by rw [bs_size, hx]; rfl
  have HX : Hid ((ByteArray.mk x.toArray).extract 5 7 = ByteArray.mk #[dig (s.value.natAbs / 10), dig (s.value.natAbs % 10)]) := by
    show _ = _
    rw [bs_extract, hx]; rfl
  have HV := hid (fun wx => value2_any (s.value.natAbs / 10) (s.value.natAbs % 10) wx (by omega) (by omega))
  have hab : (((s.value.natAbs / 10 * 10 + s.value.natAbs % 10 : Nat)) : Int) = (s.value.natAbs : Int) := by omega
  rw [hab] at HV
  obtain ⟨y, hy⟩ : ∃ y : ByteArray, y = ⟨x.toArray⟩ := ⟨_, rfl⟩
  rw [← hy] at h7 HX
  have h4 : 4 < y.size := by omega
  have HB : Hid ((y[4]'h4) = if s.value < 0 then 45 else 43) := by
    show (y[4]'h4) = _
    subst hy; rw [byte_at, hx]; rfl
  rw [← hx]
  unfold strV
  rw [← hy]
  clear hx hy hab hg
  generalize s.value = v at *
  by_cases hneg : v < 0
  · rw [if_pos hneg] at HB
    have hb : ((y[4]'h4).toNat : Int) = 45 := by rw [HB.out]; rfl
    have HN : Hid ((v.natAbs : Int) = -v) := by show _ = _; omega
    rw [HN.out] at HV
    go_enter Tryz.func76, Tryz.ntmps76
    go_wp2_with fail
    rw [HX.out]
    refine (HV.out _).mono ?_
    rintro e w1 ⟨rfl, hw1⟩
    subst w1
    go_wp2
    go_ret
    exact ⟨by first | rfl | (congr 2; omega), rfl⟩
  · rw [if_neg hneg] at HB
    have hb : ((y[4]'h4).toNat : Int) = 43 := by rw [HB.out]; rfl
    have HN : Hid ((v.natAbs : Int) = v) := by show _ = _; omega
    rw [HN.out] at HV
    go_enter Tryz.func76, Tryz.ntmps76
    go_wp2_with fail
    rw [HX.out]
    refine (HV.out _).mono ?_
    rintro e w1 ⟨rfl, hw1⟩
    subst w1
    go_wp2
    go_ret
    exact ⟨rfl, rfl⟩

theorem decDigits_step (d : Nat) (hd : 10 ≤ d) : Lib.decDigits d = Lib.decDigits (d / 10) ++ [dig (d % 10)] := by
  rw [Lib.decDigits, dif_neg (by omega)]; rfl

set_option maxRecDepth 100000 in
set_option maxHeartbeats 1000000 in
theorem num1 (d : Nat) (w : World) (hd : d < 10) : Calls Tryz.prog 77 #[.int .i64 d] w fun e w' => e = .returned (.string ⟨#[dig d]⟩) ∧ Blw w w' := by
  have HD := hid (digits_any d 1 w (by omega) (by omega))
  have HL : Hid (lastD d 1 = [dig d]) := by show lastD d 1 = _; simp [lastD, Nat.mod_eq_of_lt hd]
  rw [HL.out] at HD
  go_enter Tryz.func77, Tryz.ntmps77
  go_wp2_with fail
  refine HD.out.mono ?_
  rintro e w1 ⟨rfl, b1⟩
  go_wp2
  go_ret
  exact ⟨rfl, b1⟩

set_option maxRecDepth 100000 in
set_option maxHeartbeats 1000000 in
theorem num_step (d : Nat) (w : World) (hd : 10 ≤ d) (hd2 : d < 10000) (hrec : ∀ wx, Calls Tryz.prog 77 #[.int .i64 ((d : Int) / 10)] wx fun e w' => e = .returned (.string ⟨(Lib.decDigits (d / 10)).toArray⟩) ∧ Blw wx w') :
    Calls Tryz.prog 77 #[.int .i64 d] w fun e w' => e = .returned (.string ⟨(Lib.decDigits d).toArray⟩) ∧ Blw w w' := by
  have hlen : (Lib.decDigits (d / 10)).length ≤ 4 := dd_len 3 (d / 10) (by omega)
  have HREC := hid hrec
  have HDD := hid (decDigits_step d hd)
  have HD := hid (digits_any d 1 w (by omega) (by omega))
  have HL : Hid (lastD d 1 = [dig (d % 10)]) := by show lastD d 1 = _; simp [lastD]
  rw [HL.out] at HD
  generalize Lib.decDigits d = ld at *
  generalize Lib.decDigits (d / 10) = lq at *
  clear hrec
  go_enter Tryz.func77, Tryz.ntmps77
  go_wp2_with fail
  refine HD.out.mono ?_
  rintro e w1 ⟨rfl, b1⟩
  go_wp2_with fail
  refine (HREC.out _).mono ?_
  rintro e w2 ⟨rfl, b2⟩
  go_wp2
  go_ret
  exact ⟨ret_str (by rw [HDD.out]; exact bytes_app lq [dig (d % 10)]), b1.tr b2⟩

theorem num_pos : ∀ (f d : Nat) (w : World), d < 10000 → d < 10 ^ (f + 1) → Calls Tryz.prog 77 #[.int .i64 d] w fun e w' => e = .returned (.string ⟨(Lib.decDigits d).toArray⟩) ∧ Blw w w' := by
  intro f
  induction f with
  | zero =>
    intro d w h1 h2
    have hd : d < 10 := by simpa using h2
    rw [Lib.decDigits, dif_pos hd]
    exact num1 d w hd
  | succ f ih =>
    intro d w h1 h2
    by_cases hd : d < 10
    · rw [Lib.decDigits, dif_pos hd]
      exact num1 d w hd
    · refine num_step d w (by omega) h1 fun wx => ?_
      have h3 : d / 10 < 10 ^ (f + 1) := by
        rw [Nat.div_lt_iff_lt_mul (by decide)]
        rw [Nat.pow_succ] at h2; exact h2
      have := ih (d / 10) wx (by omega) h3
      rwa [show (((d / 10 : Nat)) : Int) = (d : Int) / 10 from by omega] at this

set_option maxRecDepth 100000 in
set_option maxHeartbeats 400000 in
theorem number_any (z : Int) (w : World) (h0 : -9999 ≤ z) (h1 : z ≤ 9999) : Calls Tryz.prog 77 #[.int .i64 z] w fun e w' => e = .returned (.string ⟨(Lib.itoa z).toArray⟩) ∧ Blw w w' := by
  by_cases hz : z < 0
  · have HR := hid (num_pos 3 z.natAbs w (by omega) (by omega))
    have hl : (Lib.decDigits z.natAbs).length ≤ 4 := dd_len 3 _ (by omega)
    have HI : Hid (Lib.itoa z = 45 :: Lib.decDigits z.natAbs) := by show Lib.itoa z = _; rw [Lib.itoa, if_pos hz]
    generalize Lib.itoa z = li at *
    rw [show ((z.natAbs : Nat) : Int) = -z from by omega] at HR
    generalize Lib.decDigits z.natAbs = ld at *
    go_enter Tryz.func77, Tryz.ntmps77
    go_wp2_with fail
    refine HR.out.mono ?_
    rintro e w1 ⟨rfl, b1⟩
    go_wp2
    go_ret
    exact ⟨ret_str (by rw [HI.out]; exact bytes_app [45] ld), b1⟩
  · obtain ⟨d, rfl⟩ := Int.eq_ofNat_of_zero_le (show 0 ≤ z by omega)
    have := num_pos 3 d w (by omega) (by omega)
    rw [Lib.itoa, if_neg hz]
    exact this
end Go.Proofs.YtkeanpabacfdlaaGreatDoor
