import Derived.Test.YtkeanpabacfdlaaGreatDoorW9
namespace Go.Proofs.YtkeanpabacfdlaaGreatDoor
set_option linter.unusedVariables false
set_option linter.unusedSimpArgs false
open Go.RowKit
variable {xt : Ext}
attribute [local go_sem ↓] Go.wp_at_zero Go.wp_at_succ

theorem stale_mono (p : Pc) (l : List UInt8) (k : Nat) (h : staleTo p l k = true) : ∀ m, k ≤ m → staleTo p l m = true := by
  intro m
  induction m with
  | zero => intro hk; have : k = 0 := by omega
            subst this; exact h
  | succ m ih =>
    intro hk
    by_cases e : k = m + 1
    · subst e; exact h
    · rw [staleTo, ih (by omega)]; rfl

set_option maxRecDepth 100000 in
set_option maxHeartbeats 1000000 in
theorem checkToken_any (b me n : Nat) (p : Pc) (s : ByteArray) (w : World) (hn : n ≤ 3) (hs : s.size ≤ maxLen) (h : w.heap[b]? = some (.cells (repArr me n p xt) 99)) :
    Calls Tryz.prog 72 #[.pointer (some ⟨b, 0, none⟩), .string s] w fun e w' => e = .returned (.int .i64 (tokErr n p s.data.toList)) ∧ Blw w w' := by
  have HS := hid hs
  unfold maxLen at hs
  have hbl := lt_of_blk h
  have HI := hid (show (Tryz.prog.info? 97).map (·.size) = some p.cells.length by rw [size63, Pc.len])
  have H0 := hid h
  have HZ := hid (show s.data.toList.length = s.size from Array.length_toList)
  clear h
  obtain ⟨t, ht⟩ : ∃ t, t = tokErr n p s.data.toList := ⟨_, rfl⟩
  rw [← ht]
  have HT := hid ht
  clear ht
  go_enter Tryz.func72, Tryz.ntmps72
  go_wp2_with fail
  refine (isToken_any b me n p s _ HS.out H0.out).mono ?_
  rintro e w1 ⟨rfl, hw1⟩
  subst w1
  cases htk : isTok n s.data.toList
  · have HF : Hid (t = 2) := by show t = 2; rw [HT.out, tokErr, htk]; rfl
    go_wp2
    go_ret
    exact ⟨by rw [HF.out]; rfl, Blw.rfl _⟩
  · have HK := hid htk
    clear htk
    have hn3 : s.size = n := by have := HK.out; simp only [isTok, Bool.and_eq_true, beq_iff_eq] at this; rw [← HZ.out]; exact this.1
    have hss : s.size ≤ 3 := by omega
    have hall : ∀ k (hk : k < s.size), 48 ≤ (s[k].toNat : Int) ∧ (s[k].toNat : Int) ≤ 57 := by
      intro k hk
      have := HK.out; simp only [isTok, Bool.and_eq_true] at this
      have h2 := (List.all_eq_true.1 this.2) s[k] (by rw [show s[k] = s.data.toList[k]'(by rw [HZ.out]; exact hk) from rfl]; exact List.getElem_mem _)
      simp only [isDigB, Bool.and_eq_true, decide_eq_true_eq, UInt8.le_iff_toNat_le] at h2
      have e1 : (48 : UInt8).toNat = 48 := rfl
      have e2 : (57 : UInt8).toNat = 57 := rfl
      omega
    have HALL := hid hall
    have HN3 := hid hn3
    clear hall hn3
    go_wp2_with fail
    go_loopw [5] (fun i wr => ∃ k : Nat, k ≤ s.size ∧ i = .int .i64 k ∧ staleTo p s.data.toList k = false ∧ Blw w wr) (fun i _ => s.size - (intOf i).toNat)
    case atStart => exact ⟨0, by omega, rfl, rfl, Blw.rfl _⟩
    case round =>
      obtain ⟨k, hk, rfl, hst, hb⟩ := hrel
      have HST := hid hst
      have H := hid hb
      have hr := (hb.bk b hbl).trans H0.out
      have hrg := rep_range hr
      clear hst hb hr
      by_cases hlt : k < s.size
      · obtain ⟨g0, g1⟩ := HALL.out k hlt
        have hcnt := Pc.count_le p (k : Int)
        have HE : Hid (staleTo p s.data.toList (k + 1) = decide (p.count (k : Int) < s[k].toNat - 48)) := by
          show staleTo p s.data.toList (k + 1) = _
          rw [staleTo, HST.out]
          simp [List.getD, List.getElem?_eq_getElem (show k < s.data.toList.length by rw [HZ.out]; exact hlt)]
          rfl
        go_wp2_with (first | (refine wpList_load_mid (by rfl) 97 (.tmp 25) (by rfl) b 2 (by rfl) p.cells _ hrg Tryz.underlying97 rfl HI.out ?_))
        refine (count_cells p k _).mono ?_
        rintro e w1 ⟨rfl, b1⟩
        have H1 := hid (H.out.tr b1)
        clear b1 hrg
        obtain ⟨d, hd⟩ : ∃ d, d = p.count (k : Int) := ⟨_, rfl⟩
        rw [← hd] at hcnt
        rw [← hd]
        have HD := hid hd
        clear hd
        by_cases hgt : (d : Int) < (s[k].toNat : Int) - 48
        · have HF : Hid (t = 3) := by
            show t = 3
            have h1 : staleTo p s.data.toList (k + 1) = true := by rw [HE.out, ← HD.out]; simp; omega
            rw [HT.out, tokErr, HK.out, stale_mono p _ _ h1 _ (by rw [HZ.out]; omega)]; rfl
          go_wp2
          go_ret
          exact ⟨by rw [HF.out]; rfl, H1.out⟩
        · have HG : Hid (staleTo p s.data.toList (k + 1) = false) := by
            show staleTo p s.data.toList (k + 1) = false
            rw [HE.out, ← HD.out]; simp; omega
          go_wp2
          go_roundw
          case rel => exact ⟨k + 1, by omega, by go_num, HG.out, H1.out⟩
          case measure => simp [intOf]; omega
      · have hkn : k = s.size := by omega
        subst hkn
        have HF : Hid (t = 0) := by
          show t = 0
          rw [HT.out, tokErr, HK.out, HZ.out, HST.out]; rfl
        go_wp2
        go_ret
        exact ⟨by rw [HF.out]; rfl, H.out⟩

end Go.Proofs.YtkeanpabacfdlaaGreatDoor
