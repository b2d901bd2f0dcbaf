import Derived.Test.YtkeanpabacfdlaaGreatDoorQ5
import Derived.Test.YtkeanpabacfdlaaGreatDoorW10
namespace Go.Proofs.YtkeanpabacfdlaaGreatDoor
set_option linter.unusedVariables false
set_option linter.unusedSimpArgs false
open Go.RowKit

set_option maxRecDepth 100000 in
set_option maxHeartbeats 1000000 in
theorem may_any (cb me n : Nat) (a b : Value) (had : Nat) (lt ac : Value) (dk : Bs) (D E : List Bs) (p : Pc) (s : ByteArray) (w : World) (hn : n ≤ 3) (hs : s.size ≤ maxLen) (h : w.heap[cb]? = some (.cells (refArr me n a b had lt ac dk) 104)) (hP : PcAt w a b D E) (hK : ∀ r : Int, knownL D r = p.count r) :
    Calls Tryz.prog 75 #[.pointer (some ⟨cb, 0, none⟩), .string s] w fun e w' => e = .returned (.int .i64 (tokErr n p s.data.toList)) ∧ w' = w := by
  unfold maxLen at hs
  obtain ⟨c0, c1, _⟩ := ref_n h
  have H := hid h
  have HP := hid hP
  have HK := hid hK
  have HZ := hid (show s.data.toList.length = s.size from Array.length_toList)
  have HA := hid (fun wx hl => all_any s.data.toList wx hl)
  simp only [strV_eta] at HA
  clear h hP hK c0
  obtain ⟨t, ht⟩ : ∃ t, t = tokErr n p s.data.toList := ⟨_, rfl⟩
  rw [← ht]
  have HT := hid ht
  clear ht
  by_cases hl : s.size = n
  · have hl1 : ((s.size : Int) != (n : Int)) = false := by simp; omega
    have HL := hid hl
    have hss : s.size ≤ 3 := by omega
    clear hl
    go_enter Tryz.func75, Tryz.ntmps75
    go_wp2_with fail
    refine (HA.out _ (by have := HZ.out; omega)).mono ?_
    rintro e w1 ⟨rfl, rfl⟩
    cases hal : s.data.toList.all isDigB
    · have HF : Hid (t = 2) := by show t = 2; rw [HT.out, tokErr, isTok, hal]; simp
      go_wp2
      go_ret
      exact ⟨by rw [HF.out]; rfl, rfl⟩
    · have HK2 : Hid (isTok n s.data.toList = true) := by show isTok n s.data.toList = true; simp [isTok, hal, HZ.out, HL.out]
      have hall : ∀ k (hk : k < s.size), 48 ≤ (s[k].toNat : Int) ∧ (s[k].toNat : Int) ≤ 57 := by
        intro k hk
        have h2 := (List.all_eq_true.1 hal) s[k] (by rw [show s[k] = s.data.toList[k]'(by rw [HZ.out]; exact hk) from rfl]; exact List.getElem_mem _)
        simp only [isDigB, Bool.and_eq_true, decide_eq_true_eq, UInt8.le_iff_toNat_le] at h2
        have e1 : (48 : UInt8).toNat = 48 := rfl
        have e2 : (57 : UInt8).toNat = 57 := rfl
        omega
      have HALL := hid hall
      clear hall hal
      go_wp2_with fail
      go_loop [6] (fun i => ∃ k : Nat, k ≤ n ∧ i = .int .i64 k ∧ staleTo p s.data.toList k = false) (fun i => n - (intOf i).toNat)
      case atStart => exact ⟨0, by omega, rfl, rfl⟩
      case round =>
        obtain ⟨k, hk, rfl, hst⟩ := hrel
        have HST := hid hst
        clear hst
        by_cases hlt : k < n
        · have hlt' : k < s.size := by have := HL.out; omega
          obtain ⟨g0, g1⟩ := HALL.out k hlt'
          have HE : Hid (staleTo p s.data.toList (k + 1) = decide (p.count (k : Int) < s[k].toNat - 48)) := by
            show staleTo p s.data.toList (k + 1) = _
            rw [staleTo, HST.out]
            simp [List.getD, List.getElem?_eq_getElem (show k < s.data.toList.length by rw [HZ.out]; exact hlt')]
            rfl
          have hcnt := Pc.count_le p (k : Int)
          go_wp2_with fail
          refine (known_any cb me n a b had lt ac dk D E (k : Int) _ H.out HP.out).mono ?_
          rintro e w2 ⟨rfl, rfl⟩
          rw [HK.out]
          obtain ⟨d, hd⟩ : ∃ d, d = p.count (k : Int) := ⟨_, rfl⟩
          rw [← hd] at hcnt
          rw [← hd]
          have HD := hid hd
          clear hd
          by_cases hgt : (d : Int) < (s[k].toNat : Int) - 48
          · have HF : Hid (t = 3) := by
              show t = 3
              have h1 : staleTo p s.data.toList (k + 1) = true := by rw [HE.out, ← HD.out]; simp; omega
              rw [HT.out, tokErr, HK2.out, stale_mono p _ _ h1 _ (by rw [HZ.out]; omega)]; rfl
            go_wp2
            go_ret
            exact ⟨by rw [HF.out]; rfl, rfl⟩
          · have HG : Hid (staleTo p s.data.toList (k + 1) = false) := by
              show staleTo p s.data.toList (k + 1) = false
              rw [HE.out, ← HD.out]; simp; omega
            go_wp2
            go_round
            case rel => exact ⟨k + 1, by omega, by go_num, HG.out⟩
            case measure => simp [intOf]; omega
        · have hkn : k = n := by omega
          have HF : Hid (t = 0) := by
            show t = 0
            rw [HT.out, tokErr, HK2.out, HZ.out, HL.out, ← hkn, HST.out]; rfl
          subst hkn
          go_wp2
          go_ret
          exact ⟨by rw [HF.out]; rfl, rfl⟩
  · have hl1 : ((s.size : Int) != (n : Int)) = true := by simp; omega
    have HF : Hid (t = 2) := by show t = 2; rw [HT.out, tokErr, isTok, HZ.out]; simp [hl]
    clear hl
    go_enter Tryz.func75, Tryz.ntmps75
    go_wp2
    go_ret
    exact ⟨by rw [HF.out]; rfl, rfl⟩

/-- A piece as text, by its lists. -/
def writeL (D E : List Bs) : Bs := D.flatten ++ [59] ++ E.flatten

set_option maxRecDepth 100000 in
set_option maxHeartbeats 1000000 in
theorem write_any (a b : Value) (D E : List Bs) (w : World) (hP : PcAt w a b D E) :
    Calls Tryz.prog 81 #[.agg #[a, b]] w fun e w' => e = .returned (.string ⟨(writeL D E).toArray⟩) ∧ Blw w w' := by
  have HP := hid hP
  have ld := hP.dl
  have le := hP.el
  obtain ⟨ao, ka, rfl, oa⟩ := hP.d.op
  obtain ⟨bo, kb, rfl, ob⟩ := hP.e.op
  have OA := hid oa
  have OB := hid ob
  have E7 := hid (flatTo_len E 7 (fun x hx => Nat.le_of_eq (hP.e7 x hx)))
  have D2 := hid (flatTo_len D 2 (fun x hx => by obtain ⟨c0, c1, rfl, _⟩ := hP.d2 x hx; simp))
  have FA := hid (flatTo_all E)
  have FD := hid (flatTo_all D)
  have d2 := hid hP.d2
  clear hP oa ob
  go_enter Tryz.func81, Tryz.ntmps81
  go_wp2
  go_loop [3, 4] (fun s i => ∃ k : Nat, k ≤ D.length ∧ i = .int .i64 k ∧ s = .string ⟨(flatTo D k).toArray⟩) (fun _ i => D.length - (intOf i).toNat)
  case atStart => exact ⟨0, by omega, rfl, by simp [flatTo]⟩
  case round =>
    obtain ⟨k, hk, rfl, rfl⟩ := hrel
    have hfl := D2.out k
    by_cases hlt : k < D.length
    · obtain ⟨g, rfl, hg, hc⟩ := OA.out (by omega)
      have hck := hc k hlt
      unfold strV at hck
      have h7 : (D.getD k []).length = 2 := by obtain ⟨c0, c1, e, _⟩ := d2.out _ (mem_getD D k hlt); rw [e]; rfl
      have HS := hid (flatTo_succ D k hlt)
      have hck' : (w.alloc (.cells #[.slice (some ⟨g, 0, none⟩) D.length ka, .slice bo E.length kb] 101)).cell? ⟨g, k, none⟩ = _ := ((bcell ((Blw.rfl w).al (.cells #[.slice (some ⟨g, 0, none⟩) D.length ka, .slice bo E.length kb] 101))).1 g k hg).trans hck
      clear hc
      generalize D.getD k [] = x at *
      generalize flatTo D k = z at *
      go_wp2
      go_round
      case rel => exact ⟨k + 1, by omega, by go_num, by rw [HS.out]; exact congrArg Value.string (ByteArray.mk_append_mk z x)⟩
      case measure => simp [intOf]; omega
    · have hkn : k = D.length := by omega
      have HK : Hid (flatTo D k = D.flatten) := by rw [hkn, FD.out]; exact rfl
      generalize flatTo D k = z at *
      subst hkn
      have hz1 : (z ++ [59]).length = z.length + 1 := by simp
      have HA := hid (ByteArray.mk_append_mk z [59])
      go_wp2
      go_loop [3, 5] (fun s i => ∃ k : Nat, k ≤ E.length ∧ i = .int .i64 k ∧ s = .string ⟨(z ++ [59] ++ flatTo E k).toArray⟩) (fun _ i => E.length - (intOf i).toNat)
      case atStart => exact ⟨0, by omega, rfl, by simp [flatTo]; exact HA.out⟩
      case round =>
        obtain ⟨k, hk, rfl, rfl⟩ := hrel
        have hfe := E7.out k
        have hl2 : (z ++ [59] ++ flatTo E k).length = z.length + 1 + (flatTo E k).length := by rw [List.length_append, hz1]
        by_cases hlt : k < E.length
        · obtain ⟨g, rfl, hg, hc⟩ := OB.out (by omega)
          have hck := hc k hlt
          unfold strV at hck
          have h7 := HP.out.e7 _ (mem_getD E k hlt)
          have HS := hid (flatTo_succ E k hlt)
          have hck' : (w.alloc (.cells #[.slice ao D.length ka, .slice (some ⟨g, 0, none⟩) E.length kb] 101)).cell? ⟨g, k, none⟩ = _ := ((bcell ((Blw.rfl w).al (.cells #[.slice ao D.length ka, .slice (some ⟨g, 0, none⟩) E.length kb] 101))).1 g k hg).trans hck
          clear hc
          generalize E.getD k [] = x at *
          have HX : Hid (z ++ [59] ++ flatTo E (k + 1) = (z ++ [59] ++ flatTo E k) ++ x) := by
            show z ++ [59] ++ flatTo E (k + 1) = _
            rw [HS.out, ← List.append_assoc]
          clear HS
          generalize z ++ [59] ++ flatTo E k = y at *
          go_wp2
          go_round
          case rel => exact ⟨k + 1, by omega, by go_num, by rw [HX.out]; exact congrArg Value.string (ByteArray.mk_append_mk y x)⟩
          case measure => simp [intOf]; omega
        · have hkn : k = E.length := by omega
          have HY : Hid (writeL D E = z ++ [59] ++ flatTo E k) := by rw [hkn, FA.out, HK.out]; exact rfl
          generalize z ++ [59] ++ flatTo E k = y at *
          subst hkn
          go_wp2
          go_ret
          exact ⟨by rw [HY.out]; rfl, (Blw.rfl _).al _⟩
end Go.Proofs.YtkeanpabacfdlaaGreatDoor
