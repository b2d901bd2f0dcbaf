import Derived.Test.YtkeanpabacfdlaaGreatDoorW4
import Derived.Test.YtkeanpabacfdlaaGreatDoorW5
namespace Go.Proofs.YtkeanpabacfdlaaGreatDoor
set_option linter.unusedVariables false
set_option linter.unusedSimpArgs false
open Go.RowKit

theorem bytes_app (x y : List UInt8) : (ByteArray.mk x.toArray ++ ByteArray.mk y.toArray) = ByteArray.mk (x ++ y).toArray := ByteArray.mk_append_mk x y

set_option maxHeartbeats 1000000 in
theorem entryText_any (s : Sl) (r n : Nat) (w : World) (hr : r < 10) (hn : n < 10) (hc0 : 0 ≤ s.cart) (hc1 : s.cart < 3) (hi0 : 0 ≤ s.item) (hi1 : s.item < 4) (hv0 : -99 ≤ s.value) (hv1 : s.value ≤ 99) :
    Calls Tryz.prog 130 #[.int .i64 r, .int .i64 n, .agg #[.int .i64 s.cart, .int .i64 s.item, .int .i64 s.value]] w fun e w' => e = .returned (.string ⟨(s.text r n).toArray⟩) ∧ Blw w w' := by
  obtain ⟨l, hl⟩ : ∃ l, l = s.text r n := ⟨_, rfl⟩
  rw [← hl]
  have HL : Hid (l = [cartB s.cart.toNat, itemB s.item.toNat, dig r, dig n] ++ valL s.value) := hl
  clear hl
  obtain ⟨kk, ff, c, it, v⟩ := s
  simp only [] at *
  have vl : (valL v).length = 3 := rfl
  go_enter Tryz.func130, Tryz.ntmps130
  go_wp2_with fail
  refine (cartLetter_any c _ hc0 hc1).mono ?_
  rintro e w1 ⟨rfl, b1⟩
  obtain ⟨c1, f1⟩ := bcell b1
  go_wp2_with fail
  refine (itemLetter_any it _ hi0 hi1).mono ?_
  rintro e w2 ⟨rfl, b2⟩
  have b3 := b1.tr b2
  obtain ⟨c2, f2⟩ := bcell b3
  clear b2 c1 f1
  go_wp2_with fail
  refine (dotText_any r n _ hr hn).mono ?_
  rintro e w3 ⟨rfl, rfl⟩
  go_wp2_with fail
  refine (valueText_any v _ hv0 hv1).mono ?_
  rintro e w4 ⟨rfl, rfl⟩
  go_wp2
  go_ret
  refine ⟨ret_str ?_, ((Blw.rfl _).al _).tr b3⟩
  rw [HL.out]
  simp only [bytes_app]
  rfl

theorem textTo_succ (p : Pc) (c it : Int) (k m : Nat) (hm : m < 9) : p.textTo c it (k * 9 + (m + 1)) = p.textTo c it (k * 9 + m) ++ (if (p k m).isOf c it then (p k m).text k (m + 1) else []) := by
  show p.textTo c it (k * 9 + m + 1) = _
  rw [Pc.textTo, Pc.nth_ri _ _ _ hm]
  have e1 : (k * 9 + m) / 9 = k := by omega
  have e2 : (k * 9 + m) % 9 = m := by omega
  rw [e1, e2]

set_option maxHeartbeats 1000000 in
theorem itemText_any (p : Pc) (hp : p.ok) (c it : Int) (w : World) :
    Calls Tryz.prog 117 #[.agg p.arr, .int .i64 c, .int .i64 it] w fun e w' => e = .returned (.string ⟨(p.textTo c it 27).toArray⟩) ∧ Blw w w' := by
  have HP := hid hp
  clear hp
  go_enter Tryz.func117, Tryz.ntmps117
  go_wp2
  go_loopw [7, 8] (fun s r wr => ∃ k : Nat, k ≤ 3 ∧ r = .int .i64 k ∧ s = .string ⟨(p.textTo c it (k * 9)).toArray⟩ ∧ HasPc p w wr) (fun _ r _ => 3 - (intOf r).toNat)
  case atStart => exact ⟨0, by omega, rfl, rfl, HasPc.start p w⟩
  case round =>
    obtain ⟨k, hk, rfl, rfl, hJR⟩ := hrel
    by_cases hlt : k < 3
    · have hd : decide ((k : Int) < 3) = true := by simp; omega
      go_wp2
      go_loopw [7, 9] (fun s i wr => ∃ m : Nat, m ≤ 9 ∧ i = .int .i64 m ∧ s = .string ⟨(p.textTo c it (k * 9 + m)).toArray⟩ ∧ HasPc p w wr) (fun _ i _ => 9 - (intOf i).toNat)
      case atStart => exact ⟨0, by omega, rfl, rfl, hJR⟩
      case round =>
        clear hJR
        obtain ⟨m, hm, rfl, rfl, hJR⟩ := hrel
        by_cases hlm : m < 9
        · have H := hid hJR
          have hln := textTo_len p c it (k * 9 + m)
          have HS := hid (textTo_succ p c it k m hlm)
          generalize p.textTo c it (k * 9 + m) = tx at *
          obtain ⟨p0, p1, p2, p3, p4⟩ := cells5 hJR.1 k m hlt hlm
          have hk0 : (0 : Int) ≤ (k : Int) := Int.natCast_nonneg _
          have hk3 : (k : Int) < 3 := by omega
          have hm0 : (0 : Int) ≤ (m : Int) := Int.natCast_nonneg _
          have hm9 : (m : Int) < 9 := by omega
          clear hJR
          go_wp2_with fail
          refine (isOf_cells (p k m) c it _).mono ?_
          rintro e w2 ⟨rfl, hb⟩
          have H2 := hid (H.out.on hb)
          cases hi : (p k m).isOf c it
          · clear hb
            go_wp2
            go_roundw
            case rel => exact ⟨m + 1, by omega, by go_num, by rw [HS.out, hi]; simp, H2.out⟩
            case measure => simp [intOf]; omega
          · obtain ⟨p0', p1', p2', p3', p4'⟩ := cells5 H2.out.1 k m hlt hlm
            have hv : (p k m).known = true ∧ 0 ≤ (p k m).cart ∧ (p k m).cart < 3 ∧ 0 ≤ (p k m).item ∧ (p k m).item < 4 ∧ -99 ≤ (p k m).value ∧ (p k m).value ≤ 99 := by
              have hf : (p k m).filled = true := by simp only [Sl.isOf, Bool.and_eq_true] at hi; exact hi.1
              exact HP.out k m hlt hlm hf
            have HV := hid hv
            clear hb hv
            go_wp2_with fail
            refine (entryText_any (p k m) k (m + 1) _ (by omega) (by omega) HV.out.2.1 HV.out.2.2.1 HV.out.2.2.2.1 HV.out.2.2.2.2.1 HV.out.2.2.2.2.2.1 HV.out.2.2.2.2.2.2).mono ?_
            rintro e w3 ⟨rfl, hb⟩
            have H3 := hid (H2.out.on hb)
            have tl : ((p k m).text k (m + 1)).length = 7 := rfl
            clear hb
            go_wp2
            go_roundw
            case rel => exact ⟨m + 1, by omega, by go_num, by rw [HS.out, hi, bytes_app]; rfl, H3.out⟩
            case measure => simp [intOf]; omega
        · have hm9 : m = 9 := by omega
          subst hm9
          go_wp2
          go_roundw
          case rel => exact ⟨k + 1, by omega, by go_num, by rw [show (k + 1) * 9 = k * 9 + 9 by omega], hJR⟩
          case measure => simp [intOf]; omega
    · have hk3 : k = 3 := by omega
      subst hk3
      go_wp2
      go_ret
      exact ⟨rfl, hJR.2.2⟩
end Go.Proofs.YtkeanpabacfdlaaGreatDoor
