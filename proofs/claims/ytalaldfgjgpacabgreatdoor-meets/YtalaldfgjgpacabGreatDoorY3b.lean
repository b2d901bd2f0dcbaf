import Derived.Test.YtalaldfgjgpacabGreatDoorQB
namespace Go.Proofs.YtalaldfgjgpacabGreatDoor
set_option linter.unusedVariables false
set_option linter.unusedSimpArgs false
open Go.RowKit
attribute [local go_sem ↓] Go.wp_at_zero Go.wp_at_succ

theorem within_of {n : Nat} {K U : Vec} : ∀ k, k ≤ n → withinTo (vecL n K) (vecL n U) k = true → ∀ i, i < k → K i ≤ U i
  | 0, _, _, i, hi => absurd hi (Nat.not_lt_zero _)
  | k + 1, hk, h, i, hi => by
    rw [withinTo, Bool.and_eq_true] at h
    by_cases c : i = k
    · subst c
      have := of_decide_eq_true h.2
      rw [vecL_get _ (by omega), vecL_get _ (by omega)] at this
      omega
    · exact within_of k (by omega) h.1 i (by omega)

set_option maxRecDepth 100000 in
set_option maxHeartbeats 8000000 in
/-- Who knows the same holds the same. -/
theorem meets_cl {w : World} {m : CM} {s : CS} (h : ClAt w m s) (hI : Inv s) :
    Calls Tryz.prog 22 #[.pointer (some ⟨m.cb, 0, none⟩)] w fun e w' => e = .returned (.bool true) ∧ Blw w w' := by
  have hn3 := h.n3
  have HC := hid h
  have HI := hid hI
  clear h hI
  go_enter Tryz.func22, Tryz.ntmps22
  go_wp2
  go_loopw [3] (fun i wr => ∃ k : Nat, k ≤ s.n ∧ i = .int .i64 k ∧ Blw w wr) (fun i _ => s.n - (intOf i).toNat)
  case atStart => exact ⟨0, by omega, rfl, Blw.rfl _⟩
  case round =>
    obtain ⟨k, hk, rfl, hb⟩ := hrel
    have c0 : wr.cell? ⟨m.cb, 0, none⟩ = some (.int .i64 s.n) := by rw [(HC.out.blw hb).cell]; rfl
    have HB0 := hid hb
    clear hb
    by_cases hkn : k < s.n
    · go_wp2
      go_loopw [4] (fun i wr => ∃ j : Nat, j ≤ k ∧ i = .int .i64 j ∧ Blw w wr) (fun i _ => k - (intOf i).toNat)
      case atStart => exact ⟨0, by omega, rfl, HB0.out⟩
      case round =>
        obtain ⟨j, hj, rfl, hb⟩ := hrel
        have HB := hid hb
        clear hb c0
        by_cases hjk : j < k
        · have hjn : j < s.n := by omega
          have hk0 : (0 : Int) ≤ (k : Int) := Int.natCast_nonneg _
          have hj0 : (0 : Int) ≤ (j : Int) := Int.natCast_nonneg _
          have HS := hid (fun (wx : World) (hb : Blw w wx) => show (fun w' => w'.cell? ⟨m.cb, 3, none⟩ = some (.slice (some ⟨m.kb, 0, none⟩) s.n m.ck) ∧ w'.cell? ⟨m.kb, k, none⟩ = some (.slice (some ⟨m.g k, 0, none⟩) s.n s.n) ∧ w'.cell? ⟨m.kb, j, none⟩ = some (.slice (some ⟨m.g j, 0, none⟩) s.n s.n)) wx from ⟨by rw [(HC.out.blw hb).cell]; rfl, (HC.out.blw hb).k0 hkn, (HC.out.blw hb).k0 hjn⟩)
          obtain ⟨u, hu⟩ : ∃ u, u = withinTo (vecL s.n (s.K k)) (vecL s.n (s.K j)) s.n := ⟨_, rfl⟩
          obtain ⟨v, hv⟩ : ∃ v, v = withinTo (vecL s.n (s.K j)) (vecL s.n (s.K k)) s.n := ⟨_, rfl⟩
          have HW1 := hid (fun (wx : World) (hb : Blw w wx) => within_any (vecL s.n (s.K k)) (vecL s.n (s.K j)) s.n (m.g k) (m.g j) wx hn3 (vecL_len _ _) (vecL_len _ _) ((HC.out.blw hb).ks.kc k hkn) ((HC.out.blw hb).ks.kc j hjn))
          have HW2 := hid (fun (wx : World) (hb : Blw w wx) => within_any (vecL s.n (s.K j)) (vecL s.n (s.K k)) s.n (m.g j) (m.g k) wx hn3 (vecL_len _ _) (vecL_len _ _) ((HC.out.blw hb).ks.kc j hjn) ((HC.out.blw hb).ks.kc k hkn))
          rw [← hu] at HW1
          rw [← hv] at HW2
          have hk1 : (k : Int) < (s.n : Int) := by omega
          have hj1 : (j : Int) < (s.n : Int) := by omega
          cases u
          · clear hu hv
            cases v
            · go_wp2_with fail
              go_region_held3 (fun w' => w'.cell? ⟨m.cb, 3, none⟩ = some (.slice (some ⟨m.kb, 0, none⟩) s.n m.ck) ∧ w'.cell? ⟨m.kb, k, none⟩ = some (.slice (some ⟨m.g k, 0, none⟩) s.n s.n) ∧ w'.cell? ⟨m.kb, j, none⟩ = some (.slice (some ⟨m.g j, 0, none⟩) s.n s.n)) (first | exact HS.out _ HB.out.dr | exact HS.out _ w3B.out)
                (first
                  | (go_at_call 45
                     refine (HW1.out _ HB.out.dr).mono ?_
                     rintro e w3 ⟨rfl, b3⟩
                     have w3B := hid (HB.out.dr.tr b3)
                     clear b3))
              all_goals
                go_wp2_with fail
                go_region_held3 (fun w' => w'.cell? ⟨m.cb, 3, none⟩ = some (.slice (some ⟨m.kb, 0, none⟩) s.n m.ck) ∧ w'.cell? ⟨m.kb, k, none⟩ = some (.slice (some ⟨m.g k, 0, none⟩) s.n s.n) ∧ w'.cell? ⟨m.kb, j, none⟩ = some (.slice (some ⟨m.g j, 0, none⟩) s.n s.n)) (first | exact HS.out _ w3B.out.dr | exact HS.out _ w4B.out)
                  (first
                    | (go_at_call 45
                       refine (HW2.out _ w3B.out.dr).mono ?_
                       rintro e w4 ⟨rfl, b3⟩
                       have w4B := hid (w3B.out.dr.tr b3)
                       clear b3))
                all_goals
                  go_wp2_with fail
                  go_roundw
                  case rel => exact ⟨j + 1, by omega, by go_num, w4B.out⟩
                  case measure => simp [intOf]; omega
            · go_wp2_with fail
              go_region_held3 (fun w' => w'.cell? ⟨m.cb, 3, none⟩ = some (.slice (some ⟨m.kb, 0, none⟩) s.n m.ck) ∧ w'.cell? ⟨m.kb, k, none⟩ = some (.slice (some ⟨m.g k, 0, none⟩) s.n s.n) ∧ w'.cell? ⟨m.kb, j, none⟩ = some (.slice (some ⟨m.g j, 0, none⟩) s.n s.n)) (first | exact HS.out _ HB.out.dr | exact HS.out _ w3B.out)
                (first
                  | (go_at_call 45
                     refine (HW1.out _ HB.out.dr).mono ?_
                     rintro e w3 ⟨rfl, b3⟩
                     have w3B := hid (HB.out.dr.tr b3)
                     clear b3))
              all_goals
                go_wp2_with fail
                go_region_held3 (fun w' => w'.cell? ⟨m.cb, 3, none⟩ = some (.slice (some ⟨m.kb, 0, none⟩) s.n m.ck) ∧ w'.cell? ⟨m.kb, k, none⟩ = some (.slice (some ⟨m.g k, 0, none⟩) s.n s.n) ∧ w'.cell? ⟨m.kb, j, none⟩ = some (.slice (some ⟨m.g j, 0, none⟩) s.n s.n)) (first | exact HS.out _ w3B.out.dr | exact HS.out _ w4B.out)
                  (first
                    | (go_at_call 45
                       refine (HW2.out _ w3B.out.dr).mono ?_
                       rintro e w4 ⟨rfl, b3⟩
                       have w4B := hid (w3B.out.dr.tr b3)
                       clear b3))
                all_goals
                  go_wp2_with fail
                  go_roundw
                  case rel => exact ⟨j + 1, by omega, by go_num, w4B.out⟩
                  case measure => simp [intOf]; omega
          · cases v
            · clear hu hv
              go_wp2_with fail
              go_region_held3 (fun w' => w'.cell? ⟨m.cb, 3, none⟩ = some (.slice (some ⟨m.kb, 0, none⟩) s.n m.ck) ∧ w'.cell? ⟨m.kb, k, none⟩ = some (.slice (some ⟨m.g k, 0, none⟩) s.n s.n) ∧ w'.cell? ⟨m.kb, j, none⟩ = some (.slice (some ⟨m.g j, 0, none⟩) s.n s.n)) (first | exact HS.out _ HB.out.dr | exact HS.out _ w3B.out)
                (first
                  | (go_at_call 45
                     refine (HW1.out _ HB.out.dr).mono ?_
                     rintro e w3 ⟨rfl, b3⟩
                     have w3B := hid (HB.out.dr.tr b3)
                     clear b3))
              all_goals
                go_wp2_with fail
                go_region_held3 (fun w' => w'.cell? ⟨m.cb, 3, none⟩ = some (.slice (some ⟨m.kb, 0, none⟩) s.n m.ck) ∧ w'.cell? ⟨m.kb, k, none⟩ = some (.slice (some ⟨m.g k, 0, none⟩) s.n s.n) ∧ w'.cell? ⟨m.kb, j, none⟩ = some (.slice (some ⟨m.g j, 0, none⟩) s.n s.n)) (first | exact HS.out _ w3B.out.dr | exact HS.out _ w4B.out)
                  (first
                    | (go_at_call 45
                       refine (HW2.out _ w3B.out.dr).mono ?_
                       rintro e w4 ⟨rfl, b3⟩
                       have w4B := hid (w3B.out.dr.tr b3)
                       clear b3))
                all_goals
                  go_wp2_with fail
                  go_roundw
                  case rel => exact ⟨j + 1, by omega, by go_num, w4B.out⟩
                  case measure => simp [intOf]; omega
            · have hp : s.p k = s.p j := HI.out.same hkn hjn (fun i hi => Nat.le_antisymm (within_of s.n (Nat.le_refl _) hu.symm i hi) (within_of s.n (Nat.le_refl _) hv.symm i hi))
              have HSK := hid (fun (wx : World) (hb : Blw w wx) => state_any (m.b k) k s.n (s.p k) wx hn3 (HI.out.pok hkn) ((HC.out.blw hb).xs.rep k hkn))
              have HSJ := hid (fun (wx : World) (hb : Blw w wx) => state_any (m.b j) j s.n (s.p j) wx hn3 (HI.out.pok hjn) ((HC.out.blw hb).xs.rep j hjn))
              rw [hp] at HSK
              obtain ⟨y, hy⟩ : ∃ y : ByteArray, y = ⟨((s.p j).digsTo s.n ++ [59] ++ (s.p j).entTo 12).toArray⟩ := ⟨_, rfl⟩
              rw [← hy] at HSK HSJ
              clear hu hv hp hy
              go_wp2_with fail
              go_region_held3 (fun w' => w'.cell? ⟨m.cb, 3, none⟩ = some (.slice (some ⟨m.kb, 0, none⟩) s.n m.ck) ∧ w'.cell? ⟨m.kb, k, none⟩ = some (.slice (some ⟨m.g k, 0, none⟩) s.n s.n) ∧ w'.cell? ⟨m.kb, j, none⟩ = some (.slice (some ⟨m.g j, 0, none⟩) s.n s.n)) (first | exact HS.out _ HB.out.dr | exact HS.out _ w3B.out)
                (first
                  | (go_at_call 45
                     refine (HW1.out _ HB.out.dr).mono ?_
                     rintro e w3 ⟨rfl, b3⟩
                     have w3B := hid (HB.out.dr.tr b3)
                     clear b3))
              all_goals
                go_wp2_with fail
                go_region_held3 (fun w' => w'.cell? ⟨m.cb, 3, none⟩ = some (.slice (some ⟨m.kb, 0, none⟩) s.n m.ck) ∧ w'.cell? ⟨m.kb, k, none⟩ = some (.slice (some ⟨m.g k, 0, none⟩) s.n s.n) ∧ w'.cell? ⟨m.kb, j, none⟩ = some (.slice (some ⟨m.g j, 0, none⟩) s.n s.n)) (first | exact HS.out _ w3B.out.dr | exact HS.out _ w4B.out)
                  (first
                    | (go_at_call 45
                       refine (HW2.out _ w3B.out.dr).mono ?_
                       rintro e w4 ⟨rfl, b3⟩
                       have w4B := hid (w3B.out.dr.tr b3)
                       clear b3))
                all_goals
                  have x2 : w4.cell? ⟨m.cb, 2, none⟩ = some (.slice (some ⟨m.xb, 0, none⟩) s.n m.cx) := by rw [(HC.out.blw w4B.out).cell]; rfl
                  have xk := (HC.out.blw w4B.out).x0 hkn
                  have xj := (HC.out.blw w4B.out).x0 hjn
                  have hk1 : (k : Int) < (s.n : Int) := by omega
                  have hj1 : (j : Int) < (s.n : Int) := by omega
                  go_wp2_with fail
                  refine (HSK.out _ w4B.out).mono ?_
                  rintro e w5 ⟨rfl, b5⟩
                  have B5 := hid (w4B.out.tr b5)
                  clear b5 x2 xk xj
                  go_wp2_with fail
                  refine (HSJ.out _ B5.out).mono ?_
                  rintro e w6 ⟨rfl, b6⟩
                  have B6 := hid (B5.out.tr b6)
                  clear b6
                  go_wp2_with fail
                  go_roundw
                  case rel => exact ⟨j + 1, by omega, by go_num, B6.out⟩
                  case measure => simp [intOf]; omega
        · have hjk' : j = k := by omega
          subst hjk'
          go_wp2
          go_roundw
          case rel => exact ⟨j + 1, by omega, by go_num, HB.out⟩
          case measure => simp [intOf]; omega
    · have hkn' : k = s.n := by omega
      subst hkn'
      go_wp2
      go_ret
      exact ⟨rfl, HB0.out⟩
end Go.Proofs.YtalaldfgjgpacabGreatDoor
