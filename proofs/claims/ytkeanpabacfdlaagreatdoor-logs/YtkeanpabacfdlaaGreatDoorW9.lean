import Derived.Test.YtkeanpabacfdlaaGreatDoorW8
import Derived.Test.YtkeanpabacfdlaaGreatDoorW2
import Derived.Test.YtkeanpabacfdlaaGreatDoorR
namespace Go.Proofs.YtkeanpabacfdlaaGreatDoor
set_option linter.unusedVariables false
set_option linter.unusedSimpArgs false
open Go.RowKit
variable {xt : Ext}
attribute [local go_sem ↓] Go.wp_at_zero Go.wp_at_succ

theorem count_cells (p : Pc) (r : Int) (w : World) :
    Calls Tryz.prog 113 #[.agg p.cells.toArray, .int .i64 r] w fun e w' => e = .returned (.int .i64 (p.count r)) ∧ Blw w w' := count_any p r w

theorem lt_of_blk {w : World} {b : Nat} {o : Obj} (h : w.heap[b]? = some o) : b < w.heap.size := by
  rcases Nat.lt_or_ge b w.heap.size with hb | hb
  · exact hb
  · rw [Array.getElem?_eq_none hb] at h; cases h

set_option maxRecDepth 100000 in
set_option maxHeartbeats 1000000 in
theorem counts_any (b me n : Nat) (p : Pc) (w : World) (hn : n ≤ 3) (h : w.heap[b]? = some (.cells (repArr me n p xt) 99)) :
    Calls Tryz.prog 74 #[.pointer (some ⟨b, 0, none⟩)] w fun e w' => e = .returned (.string ⟨(p.digsTo n).toArray⟩) ∧ Blw w w' := by
  have hbl := lt_of_blk h
  have HI := hid (show (Tryz.prog.info? 97).map (·.size) = some p.cells.length by rw [size63, Pc.len])
  have H0 := hid h
  clear h
  go_enter Tryz.func74, Tryz.ntmps74
  go_wp2
  go_loopw [3, 4] (fun s r wr => ∃ k : Nat, k ≤ n ∧ r = .int .i64 k ∧ s = .string ⟨(p.digsTo k).toArray⟩ ∧ Blw w wr) (fun _ r _ => n - (intOf r).toNat)
  case atStart => exact ⟨0, by omega, rfl, rfl, Blw.rfl _⟩
  case round =>
    obtain ⟨k, hk, rfl, rfl, hb⟩ := hrel
    have H := hid hb
    have hr := (hb.bk b hbl).trans H0.out
    have hcn := rep_n hr
    have hrg := rep_range hr
    have hln := digsTo_len p k
    have HS : Hid (p.digsTo (k + 1) = p.digsTo k ++ [dig (p.count (k : Int))]) := rfl
    clear hb hr
    by_cases hlt : k < n
    · generalize p.digsTo k = tx at *
      have hcnt := Pc.count_le p (k : Int)
      go_wp2_with (first | (refine wpList_load_mid (by rfl) 97 (.tmp 16) (by rfl) b 2 (by rfl) p.cells _ hrg Tryz.underlying97 rfl HI.out ?_))
      refine (count_cells p k _).mono ?_
      rintro e w1 ⟨rfl, b1⟩
      have H1 := hid (H.out.tr b1)
      clear b1 hcn hrg
      obtain ⟨d, hd⟩ : ∃ d, d = p.count (k : Int) := ⟨_, rfl⟩
      rw [← hd] at hcnt
      rw [← hd]
      have HD := hid hd
      clear hd
      go_wp2_with fail
      refine (itoa_digit d (by omega) _).mono ?_
      rintro e w2 ⟨rfl, rfl⟩
      go_wp2
      go_roundw
      case rel => exact ⟨k + 1, by omega, by go_num, by rw [HS.out, ← HD.out, bytes_app], H1.out⟩
      case measure => simp [intOf]; omega
    · have hkn : k = n := by omega
      subst hkn
      go_wp2
      go_ret
      exact ⟨rfl, H.out⟩

/-- The token's bytes, one by one. -/
def digsIn (l : List UInt8) : Nat → Bool
  | 0 => true
  | k + 1 => digsIn l k && isDigB (l.getD k 0)

theorem digsIn_all (l : List UInt8) : ∀ k, k ≤ l.length → digsIn l k = (l.take k).all isDigB := by
  intro k
  induction k with
  | zero => intro _; rfl
  | succ k ih =>
    intro hk
    rw [digsIn, ih (by omega), List.take_succ_eq_append_getElem (by omega), List.all_append]
    simp [List.getD, List.getElem?_eq_getElem (show k < l.length by omega)]

set_option maxRecDepth 100000 in
set_option maxHeartbeats 1000000 in
theorem isToken_any (b me n : Nat) (p : Pc) (s : ByteArray) (w : World) (hs : s.size ≤ maxLen) (h : w.heap[b]? = some (.cells (repArr me n p xt) 99)) :
    Calls Tryz.prog 112 #[.pointer (some ⟨b, 0, none⟩), .string s] w fun e w' => e = .returned (.bool (isTok n s.data.toList)) ∧ w' = w := by
  unfold maxLen at hs
  have hcn := rep_n h
  have hsz : s.data.toList.length = s.size := Array.length_toList
  obtain ⟨t, ht⟩ : ∃ t, t = isTok n s.data.toList := ⟨_, rfl⟩
  rw [← ht]
  have HT := hid ht
  clear ht h
  by_cases hl : s.size = n
  · have hl1 : ((s.size : Int) != (n : Int)) = false := by simp; omega
    have HL := hid hl
    clear hl
    have HZ := hid hsz
    clear hsz
    go_enter Tryz.func112, Tryz.ntmps112
    go_wp2
    go_loop [5] (fun i => ∃ k : Nat, k ≤ s.size ∧ i = .int .i64 k ∧ digsIn s.data.toList k = true) (fun i => s.size - (intOf i).toNat)
    case atStart => exact ⟨0, by omega, rfl, rfl⟩
    case round =>
      obtain ⟨k, hk, rfl, hdg⟩ := hrel
      have HDG := hid hdg
      clear hdg
      by_cases hlt : k < s.size
      · have HE : Hid (s.data.toList.getD k 0 = s[k]) := by
          show s.data.toList.getD k 0 = s[k]
          simp [List.getD, List.getElem?_eq_getElem (show k < s.data.toList.length by rw [HZ.out]; exact hlt)]
          rfl
        have HN : ∀ x : Bool, isDigB s[k] = x → Hid (digsIn s.data.toList (k + 1) = x) := fun x hx => by
          show digsIn s.data.toList (k + 1) = x
          rw [digsIn, HDG.out, HE.out, hx]; rfl
        have HB : Hid (isDigB s[k] = decide (48 ≤ (s[k].toNat : Int) ∧ (s[k].toNat : Int) ≤ 57)) := by
          show isDigB s[k] = _
          unfold isDigB
          rw [Bool.eq_iff_iff]; simp [UInt8.le_iff_toNat_le]; omega
        have HNO : isDigB s[k] = false → Hid (t = false) := fun hx => by
          show t = false
          have h1 : digsIn s.data.toList (k + 1) = false := (HN _ hx)
          rw [HT.out, isTok]
          cases hall : s.data.toList.all isDigB with
          | false => simp
          | true =>
            exfalso
            rw [digsIn_all _ _ (by rw [HZ.out]; omega)] at h1
            rw [List.all_eq_false] at h1
            obtain ⟨x, hx1, hx2⟩ := h1
            exact hx2 ((List.all_eq_true.1 hall) x (List.mem_of_mem_take hx1))
        by_cases h1 : (s[k].toNat : Int) < 48
        · have HF := HNO (by rw [HB.out]; simp; omega)
          clear HN HNO
          go_wp2
          go_ret
          exact ⟨by rw [HF.out]; rfl, rfl⟩
        · have h1' : decide ((s[k].toNat : Int) < 48) = false := by simpa using h1
          by_cases h2 : (57 : Int) < (s[k].toNat : Int)
          · have HF := HNO (by rw [HB.out]; simp; omega)
            clear HN HNO
            go_wp2
            go_ret
            exact ⟨by rw [HF.out]; rfl, rfl⟩
          · have h2' : decide ((57 : Int) < (s[k].toNat : Int)) = false := by simpa using h2
            have HG := HN true (by rw [HB.out]; simp; omega)
            clear HN HNO
            go_wp2
            go_round
            case rel => exact ⟨k + 1, by omega, by go_num, HG.out⟩
            case measure => simp [intOf]; omega
      · have hkn : k = s.size := by omega
        subst hkn
        have HF : Hid (t = true) := by
          show t = true
          have h1 := HDG.out
          rw [digsIn_all _ _ (by rw [HZ.out]; omega), List.take_of_length_le (by rw [HZ.out]; omega)] at h1
          rw [HT.out, isTok, h1, HZ.out, HL.out]; simp
        go_wp2
        go_ret
        exact ⟨by rw [HF.out]; rfl, rfl⟩
  · have hl1 : ((s.size : Int) != (n : Int)) = true := by simp; omega
    have HF : Hid (t = false) := by rw [HT.out]; simp [isTok, hsz, hl]; exact trivial
    clear hl
    go_enter Tryz.func112, Tryz.ntmps112
    go_wp2
    go_ret
    exact ⟨by rw [HF.out]; rfl, rfl⟩
end Go.Proofs.YtkeanpabacfdlaaGreatDoor
