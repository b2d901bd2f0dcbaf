import Derived.Test.YtalaldfgjgpacaaGreatDoorML
import Derived.Test.YtalaldfgjgpacaaGreatDoorQB
namespace Go.Proofs.YtalaldfgjgpacaaGreatDoor
set_option linter.unusedVariables false
set_option linter.unusedSimpArgs false
open Go.RowKit
attribute [local go_sem ↓] Go.wp_at_zero Go.wp_at_succ

def isRepB (c : UInt8) : Bool := decide (48 ≤ c.toNat ∧ c.toNat < 51)

set_option maxHeartbeats 400000 in
theorem isReplica_any (c : UInt8) (w : World) :
    Calls Tryz.prog 108 #[.int .u8 c.toNat] w fun e w' => e = .returned (.bool (isRepB c)) ∧ w' = w := by
  obtain ⟨t, ht⟩ : ∃ t, t = isRepB c := ⟨_, rfl⟩
  have HB : Hid (t = decide (48 ≤ c.toNat ∧ c.toNat < 51)) := ht
  rw [← ht]
  clear ht
  generalize c.toNat = n at *
  by_cases h1 : (48 : Int) ≤ (n : Int)
  · by_cases h2 : (n : Int) < 51
    · have HT : Hid (t = true) := by show t = true; rw [HB.out]; simp; exact ⟨by omega, by omega⟩
      have d1 : decide ((48 : Int) ≤ (n : Int)) = true := by simpa using h1
      have d2 : decide ((n : Int) < 51) = true := by simpa using h2
      go_enter Tryz.func108, Tryz.ntmps108
      go_wp2
      go_ret
      exact ⟨by rw [HT.out]; rfl, rfl⟩
    · have HT : Hid (t = false) := by show t = false; rw [HB.out]; simp; omega
      have d1 : decide ((48 : Int) ≤ (n : Int)) = true := by simpa using h1
      have d2 : decide ((n : Int) < 51) = false := by simpa using h2
      go_enter Tryz.func108, Tryz.ntmps108
      go_wp2
      go_ret
      exact ⟨by rw [HT.out]; rfl, rfl⟩
  · have HT : Hid (t = false) := by show t = false; rw [HB.out]; simp; omega
    have d1 : decide ((48 : Int) ≤ (n : Int)) = false := by simpa using h1
    go_enter Tryz.func108, Tryz.ntmps108
    go_wp2
    go_ret
    exact ⟨by rw [HT.out]; rfl, rfl⟩

theorem isRepB_iff (c : UInt8) : isRepB c = true ↔ 48 ≤ c.toNat ∧ c.toNat < 51 := by simp [isRepB]
theorem isDigB_iff' (c : UInt8) : isDigB c = true ↔ 48 ≤ c.toNat ∧ c.toNat ≤ 57 := by
  simp only [isDigB, Bool.and_eq_true, decide_eq_true_eq, UInt8.le_iff_toNat_le]
  exact Iff.rfl

set_option maxRecDepth 100000 in
set_option maxHeartbeats 4000000 in
theorem rentry7 (c0 c1 c2 c3 c4 c5 c6 : UInt8) (t : Bool) (w : World) (hT : t = true ↔ entB c0 c1 c2 c3 c4 c5 c6) :
    Calls Tryz.prog 148 #[.string ⟨#[c0, c1, c2, c3, c4, c5, c6]⟩] w fun e w' => e = .returned (.bool t) ∧ w' = w := by
  obtain ⟨y, hy⟩ : ∃ y : ByteArray, y = ⟨#[c0, c1, c2, c3, c4, c5, c6]⟩ := ⟨_, rfl⟩
  have hys : y.size = 7 := by rw [hy]; rfl
  have hb0 : ∀ h, y[0]'h = c0 := by subst hy; intro h; rfl
  have hb1 : ∀ h, y[1]'h = c1 := by subst hy; intro h; rfl
  have hb2 : ∀ h, y[2]'h = c2 := by subst hy; intro h; rfl
  have hb3 : ∀ h, y[3]'h = c3 := by subst hy; intro h; rfl
  have hb4 : ∀ h, y[4]'h = c4 := by subst hy; intro h; rfl
  have hb5 : ∀ h, y[5]'h = c5 := by subst hy; intro h; rfl
  have hb6 : ∀ h, y[6]'h = c6 := by subst hy; intro h; rfl
  have hx : y.extract 4 7 = ⟨#[c4, c5, c6]⟩ := by subst hy; exact bs_extract [c0, c1, c2, c3, c4, c5, c6] 4 7
  rw [← hy]
  clear hy
  have HR := hid (fun wx => isReplica_any c2 wx)
  have HD5 := hid (fun wx => isDigit_any c5 wx)
  have HD6 := hid (fun wx => isDigit_any c6 wx)
  have HTT := hid hT
  clear hT

  by_cases g0 : (c0.toNat : Int) < 97
  · have d0 : decide ((c0.toNat : Int) < 97) = true := by simpa using g0
    have HF : Hid (t = false) := by
      show t = false
      cases ht : t
      · rfl
      · exfalso; have he := HTT.out.1 ht; unfold entB at he; omega
    go_enter Tryz.func148, Tryz.ntmps148
    go_wp2
    go_ret
    exact ⟨by rw [HF.out]; rfl, rfl⟩
  · have d0 : decide ((c0.toNat : Int) < 97) = false := by simpa using g0
    by_cases g1 : (100 : Int) ≤ (c0.toNat : Int)
    · have d1 : decide ((100 : Int) ≤ (c0.toNat : Int)) = true := by simpa using g1
      have HF : Hid (t = false) := by
        show t = false
        cases ht : t
        · rfl
        · exfalso; have he := HTT.out.1 ht; unfold entB at he; omega
      go_enter Tryz.func148, Tryz.ntmps148
      go_wp2
      go_ret
      exact ⟨by rw [HF.out]; rfl, rfl⟩
    · have d1 : decide ((100 : Int) ≤ (c0.toNat : Int)) = false := by simpa using g1
      by_cases g2 : (c1.toNat : Int) < 65
      · have d2 : decide ((c1.toNat : Int) < 65) = true := by simpa using g2
        have HF : Hid (t = false) := by
          show t = false
          cases ht : t
          · rfl
          · exfalso; have he := HTT.out.1 ht; unfold entB at he; omega
        go_enter Tryz.func148, Tryz.ntmps148
        go_wp2
        go_ret
        exact ⟨by rw [HF.out]; rfl, rfl⟩
      · have d2 : decide ((c1.toNat : Int) < 65) = false := by simpa using g2
        by_cases g3 : (69 : Int) ≤ (c1.toNat : Int)
        · have d3 : decide ((69 : Int) ≤ (c1.toNat : Int)) = true := by simpa using g3
          have HF : Hid (t = false) := by
            show t = false
            cases ht : t
            · rfl
            · exfalso; have he := HTT.out.1 ht; unfold entB at he; omega
          go_enter Tryz.func148, Tryz.ntmps148
          go_wp2
          go_ret
          exact ⟨by rw [HF.out]; rfl, rfl⟩
        · have d3 : decide ((69 : Int) ≤ (c1.toNat : Int)) = false := by simpa using g3
          cases hr : isRepB c2
          · have hr' : ¬ (48 ≤ c2.toNat ∧ c2.toNat < 51) := by rw [← isRepB_iff, hr]; simp
            have HF : Hid (t = false) := by
              show t = false
              cases ht : t
              · rfl
              · exfalso; have he := HTT.out.1 ht; unfold entB at he; exact hr' he.2.2.1
            go_enter Tryz.func148, Tryz.ntmps148
            go_wp2_with fail
            refine (HR.out _).mono ?_
            rintro e w1 ⟨rfl, hw1⟩
            subst w1
            rw [hr]
            go_wp2
            go_ret
            exact ⟨by rw [HF.out]; rfl, rfl⟩
          · have hr' := (isRepB_iff c2).1 hr
            by_cases g4 : (c3.toNat : Int) < 49
            · have d4 : decide ((c3.toNat : Int) < 49) = true := by simpa using g4
              have HF : Hid (t = false) := by
                show t = false
                cases ht : t
                · rfl
                · exfalso; have he := HTT.out.1 ht; unfold entB at he; omega
              go_enter Tryz.func148, Tryz.ntmps148
              go_wp2_with fail
              refine (HR.out _).mono ?_
              rintro e w1 ⟨rfl, hw1⟩
              subst w1
              rw [hr]
              go_wp2
              go_ret
              exact ⟨by rw [HF.out]; rfl, rfl⟩
            · have d4 : decide ((c3.toNat : Int) < 49) = false := by simpa using g4
              by_cases g5 : (57 : Int) < (c3.toNat : Int)
              · have d5 : decide ((57 : Int) < (c3.toNat : Int)) = true := by simpa using g5
                have HF : Hid (t = false) := by
                  show t = false
                  cases ht : t
                  · rfl
                  · exfalso; have he := HTT.out.1 ht; unfold entB at he; omega
                go_enter Tryz.func148, Tryz.ntmps148
                go_wp2_with fail
                refine (HR.out _).mono ?_
                rintro e w1 ⟨rfl, hw1⟩
                subst w1
                rw [hr]
                go_wp2
                go_ret
                exact ⟨by rw [HF.out]; rfl, rfl⟩
              · have d5 : decide ((57 : Int) < (c3.toNat : Int)) = false := by simpa using g5
                have nb : ∀ (c : UInt8) (k : Nat), c.toNat ≠ k → ((c.toNat : Int) == (k : Int)) = false := fun c k h => by rw [beq_eq_false_iff_ne]; omega
                have rest : ∀ (s43 s45 : Bool), Hid (((c4.toNat : Int) == 43) = s43 ∧ ((c4.toNat : Int) == 45) = s45) → (s43 || s45) = true → (s45 = true ↔ c4 = 45) → (s43 = true ↔ c4 = 43) → Calls Tryz.prog 148 #[.string y] w fun e w' => e = .returned (.bool t) ∧ w' = w := by
                  intro s43 s45 hs hor h45 h43
                  have hs1 := hs.out.1
                  have hs2 := hs.out.2
                  have HOR := hid hor
                  have H45 := hid h45
                  have H43 := hid h43
                  clear hs hor h45 h43
                  cases h5 : isDigB c5
                  · have h5' : ¬ (48 ≤ c5.toNat ∧ c5.toNat ≤ 57) := by rw [← isDigB_iff', h5]; simp
                    have HF : Hid (t = false) := by
                      show t = false
                      cases ht : t
                      · rfl
                      · exfalso; have he := HTT.out.1 ht; unfold entB at he; exact h5' he.2.2.2.2.2.1
                    cases s43
                    · have e45 : s45 = true := by have := HOR.out; simpa using this
                      subst e45
                      have n43 : ((c4.toNat : Int) != 43) = true := by simp only [bne, hs1]; rfl
                      have n45 : ((c4.toNat : Int) != 45) = false := by simp only [bne, hs2]; rfl
                      go_enter Tryz.func148, Tryz.ntmps148
                      go_wp2_with fail
                      refine (HR.out _).mono ?_
                      rintro e w1 ⟨rfl, hw1⟩
                      subst w1
                      rw [hr]
                      go_wp2_with fail
                      refine (HD5.out _).mono ?_
                      rintro e w1 ⟨rfl, hw1⟩
                      subst w1
                      rw [h5]
                      go_wp2
                      go_ret
                      exact ⟨by rw [HF.out]; rfl, rfl⟩
                    · have n43 : ((c4.toNat : Int) != 43) = false := by simp only [bne, hs1]; rfl
                      go_enter Tryz.func148, Tryz.ntmps148
                      go_wp2_with fail
                      refine (HR.out _).mono ?_
                      rintro e w1 ⟨rfl, hw1⟩
                      subst w1
                      rw [hr]
                      go_wp2_with fail
                      refine (HD5.out _).mono ?_
                      rintro e w1 ⟨rfl, hw1⟩
                      subst w1
                      rw [h5]
                      go_wp2
                      go_ret
                      exact ⟨by rw [HF.out]; rfl, rfl⟩
                  · have h5' := (isDigB_iff' c5).1 h5
                    cases h6 : isDigB c6
                    · have h6' : ¬ (48 ≤ c6.toNat ∧ c6.toNat ≤ 57) := by rw [← isDigB_iff', h6]; simp
                      have HF : Hid (t = false) := by
                        show t = false
                        cases ht : t
                        · rfl
                        · exfalso; have he := HTT.out.1 ht; unfold entB at he; exact h6' he.2.2.2.2.2.2.1
                      cases s43
                      · have e45 : s45 = true := by have := HOR.out; simpa using this
                        subst e45
                        have n43 : ((c4.toNat : Int) != 43) = true := by simp only [bne, hs1]; rfl
                        have n45 : ((c4.toNat : Int) != 45) = false := by simp only [bne, hs2]; rfl
                        go_enter Tryz.func148, Tryz.ntmps148
                        go_wp2_with fail
                        refine (HR.out _).mono ?_
                        rintro e w1 ⟨rfl, hw1⟩
                        subst w1
                        rw [hr]
                        go_wp2_with fail
                        refine (HD5.out _).mono ?_
                        rintro e w1 ⟨rfl, hw1⟩
                        subst w1
                        rw [h5]
                        go_wp2_with fail
                        refine (HD6.out _).mono ?_
                        rintro e w1 ⟨rfl, hw1⟩
                        subst w1
                        rw [h6]
                        go_wp2
                        go_ret
                        exact ⟨by rw [HF.out]; rfl, rfl⟩
                      · have n43 : ((c4.toNat : Int) != 43) = false := by simp only [bne, hs1]; rfl
                        go_enter Tryz.func148, Tryz.ntmps148
                        go_wp2_with fail
                        refine (HR.out _).mono ?_
                        rintro e w1 ⟨rfl, hw1⟩
                        subst w1
                        rw [hr]
                        go_wp2_with fail
                        refine (HD5.out _).mono ?_
                        rintro e w1 ⟨rfl, hw1⟩
                        subst w1
                        rw [h5]
                        go_wp2_with fail
                        refine (HD6.out _).mono ?_
                        rintro e w1 ⟨rfl, hw1⟩
                        subst w1
                        rw [h6]
                        go_wp2
                        go_ret
                        exact ⟨by rw [HF.out]; rfl, rfl⟩
                    · have h6' := (isDigB_iff' c6).1 h6
                      cases hm : ([c4, c5, c6] == [(45 : UInt8), 48, 48])
                      · have hm' : ¬ (c4 = 45 ∧ c5 = 48 ∧ c6 = 48) := by intro hh; rw [hh.1, hh.2.1, hh.2.2] at hm; simp at hm
                        have HF : Hid (t = true) := by
                          refine HTT.out.2 ?_
                          refine ⟨by omega, by omega, hr', by omega, ?_, h5', h6', hm'⟩
                          cases e43 : s43
                          · right; exact H45.out.1 (by have := HOR.out; rw [e43] at this; simpa using this)
                          · left; exact H43.out.1 e43
                        cases s43
                        · have e45 : s45 = true := by have := HOR.out; simpa using this
                          subst e45
                          have n43 : ((c4.toNat : Int) != 43) = true := by simp only [bne, hs1]; rfl
                          have n45 : ((c4.toNat : Int) != 45) = false := by simp only [bne, hs2]; rfl
                          go_enter Tryz.func148, Tryz.ntmps148
                          go_wp2_with fail
                          refine (HR.out _).mono ?_
                          rintro e w1 ⟨rfl, hw1⟩
                          subst w1
                          rw [hr]
                          go_wp2_with fail
                          refine (HD5.out _).mono ?_
                          rintro e w1 ⟨rfl, hw1⟩
                          subst w1
                          rw [h5]
                          go_wp2_with fail
                          refine (HD6.out _).mono ?_
                          rintro e w1 ⟨rfl, hw1⟩
                          subst w1
                          rw [h6]
                          go_wp2
                          go_ret
                          exact ⟨by rw [HF.out]; rfl, rfl⟩
                        · have n43 : ((c4.toNat : Int) != 43) = false := by simp only [bne, hs1]; rfl
                          go_enter Tryz.func148, Tryz.ntmps148
                          go_wp2_with fail
                          refine (HR.out _).mono ?_
                          rintro e w1 ⟨rfl, hw1⟩
                          subst w1
                          rw [hr]
                          go_wp2_with fail
                          refine (HD5.out _).mono ?_
                          rintro e w1 ⟨rfl, hw1⟩
                          subst w1
                          rw [h5]
                          go_wp2_with fail
                          refine (HD6.out _).mono ?_
                          rintro e w1 ⟨rfl, hw1⟩
                          subst w1
                          rw [h6]
                          go_wp2
                          go_ret
                          exact ⟨by rw [HF.out]; rfl, rfl⟩
                      · have hm' : Hid (c4 = 45 ∧ c5 = 48 ∧ c6 = 48) := by show _ ∧ _; simpa using hm
                        have HF : Hid (t = false) := by
                          show t = false
                          cases ht : t
                          · rfl
                          · exfalso; have he := HTT.out.1 ht; unfold entB at he; exact he.2.2.2.2.2.2.2 hm'.out
                        cases s43
                        · have e45 : s45 = true := by have := HOR.out; simpa using this
                          subst e45
                          have n43 : ((c4.toNat : Int) != 43) = true := by simp only [bne, hs1]; rfl
                          have n45 : ((c4.toNat : Int) != 45) = false := by simp only [bne, hs2]; rfl
                          go_enter Tryz.func148, Tryz.ntmps148
                          go_wp2_with fail
                          refine (HR.out _).mono ?_
                          rintro e w1 ⟨rfl, hw1⟩
                          subst w1
                          rw [hr]
                          go_wp2_with fail
                          refine (HD5.out _).mono ?_
                          rintro e w1 ⟨rfl, hw1⟩
                          subst w1
                          rw [h5]
                          go_wp2_with fail
                          refine (HD6.out _).mono ?_
                          rintro e w1 ⟨rfl, hw1⟩
                          subst w1
                          rw [h6]
                          go_wp2
                          go_ret
                          exact ⟨by rw [HF.out]; rfl, rfl⟩
                        · have n43 : ((c4.toNat : Int) != 43) = false := by simp only [bne, hs1]; rfl
                          go_enter Tryz.func148, Tryz.ntmps148
                          go_wp2_with fail
                          refine (HR.out _).mono ?_
                          rintro e w1 ⟨rfl, hw1⟩
                          subst w1
                          rw [hr]
                          go_wp2_with fail
                          refine (HD5.out _).mono ?_
                          rintro e w1 ⟨rfl, hw1⟩
                          subst w1
                          rw [h5]
                          go_wp2_with fail
                          refine (HD6.out _).mono ?_
                          rintro e w1 ⟨rfl, hw1⟩
                          subst w1
                          rw [h6]
                          go_wp2
                          go_ret
                          exact ⟨by rw [HF.out]; rfl, rfl⟩
                by_cases g43 : c4 = 43
                · refine rest true false ⟨by rw [g43]; rfl, by rw [g43]; rfl⟩ rfl (by simp [g43]) (by simp [g43])
                · have n43 : c4.toNat ≠ 43 := fun e => g43 (UInt8.toNat_inj.1 e)
                  by_cases g45 : c4 = 45
                  · refine rest false true ⟨by rw [g45]; rfl, by rw [g45]; rfl⟩ rfl (by simp [g45]) (by simp [g43])
                  · have n45 : c4.toNat ≠ 45 := fun e => g45 (UInt8.toNat_inj.1 e)
                    have e43 := nb c4 43 n43
                    have e45 := nb c4 45 n45
                    have f43 : ((c4.toNat : Int) != 43) = true := by rw [bne]; rw [show ((c4.toNat : Int) == 43) = false from e43]; rfl
                    have f45 : ((c4.toNat : Int) != 45) = true := by rw [bne]; rw [show ((c4.toNat : Int) == 45) = false from e45]; rfl
                    clear e43 e45
                    clear rest
                    have HF : Hid (t = false) := by
                      show t = false
                      cases ht : t
                      · rfl
                      · exfalso; have he := HTT.out.1 ht; unfold entB at he; exact he.2.2.2.2.1.elim g43 g45
                    go_enter Tryz.func148, Tryz.ntmps148
                    go_wp2_with fail
                    refine (HR.out _).mono ?_
                    rintro e w1 ⟨rfl, hw1⟩
                    subst w1
                    rw [hr]
                    go_wp2
                    go_ret
                    exact ⟨by rw [HF.out]; rfl, rfl⟩
end Go.Proofs.YtalaldfgjgpacaaGreatDoor
