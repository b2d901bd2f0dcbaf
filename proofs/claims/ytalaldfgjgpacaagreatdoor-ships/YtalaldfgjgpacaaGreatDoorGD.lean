import Derived.Test.YtalaldfgjgpacaaGreatDoorGC
import Derived.Test.YtalaldfgjgpacaaGreatDoorQB
namespace Go.Proofs.YtalaldfgjgpacaaGreatDoor
set_option linter.unusedVariables false
set_option linter.unusedSimpArgs false
open Go.RowKit
attribute [local go_sem ↓] Go.wp_at_zero Go.wp_at_succ

/-- The number that digits tell. -/
def numTo (l : Bs) : Nat → Nat
  | 0 => 0
  | k + 1 => numTo l k * 10 + ((l.getD k 0).toNat - 48)
def okD (l : Bs) : Bool := decide (1 ≤ l.length) && (decide (l.length ≤ 3) && l.all isDigB)
theorem numTo_bd (l : Bs) (k : Nat) (h : ∀ j, j < k → isDigB (l.getD j 0) = true) : numTo l k < 10 ^ k := by
  induction k with
  | zero => simp [numTo]
  | succ k ih =>
    have h1 := ih (fun j hj => h j (by omega))
    have h2 := h k (by omega)
    simp only [isDigB, Bool.and_eq_true, decide_eq_true_eq, UInt8.le_iff_toNat_le] at h2
    have e2 : (57 : UInt8).toNat = 57 := rfl
    rw [numTo, Nat.pow_succ]; omega
theorem digsIn_at (l : Bs) : ∀ k, digsIn l k = true → ∀ j, j < k → isDigB (l.getD j 0) = true := by
  intro k
  induction k with
  | zero => intro _ j hj; omega
  | succ k ih =>
    intro h j hj
    rw [digsIn, Bool.and_eq_true] at h
    by_cases e : j = k
    · subst e; exact h.2
    · exact ih h.1 j (by omega)

set_option maxRecDepth 100000 in
set_option maxHeartbeats 2000000 in
theorem dread_any (l : Bs) (w : World) (hl : l.length ≤ 1000000000) :
    Calls Tryz.prog 127 #[.string ⟨l.toArray⟩] w fun e w' => e = .returned (.tuple #[.int .i64 ((if okD l then numTo l l.length else 0 : Nat) : Int), .bool (okD l)]) ∧ w' = w := by
  obtain ⟨s, hs⟩ : ∃ s : ByteArray, s = ⟨l.toArray⟩ := ⟨_, rfl⟩
  have hsz : s.size = l.length := by rw [hs, bs_size]
  have HB : Hid (∀ k (hk : k < s.size), s[k]'hk = l.getD k 0) := by
    show ∀ k (hk : k < s.size), s[k]'hk = l.getD k 0
    subst hs; exact byte_at l
  have HN := hid (digsIn_no l)
  have HDA := hid (digsIn_all l)
  have HDI := hid (digsIn_at l)
  have HNB := hid (numTo_bd l)
  have HZ := hid hsz
  have hl' : s.size ≤ 1000000000 := by omega
  obtain ⟨ok, hok⟩ : ∃ ok, ok = okD l := ⟨_, rfl⟩
  rw [← hok, ← hs]
  have HOK : Hid (ok = (decide (1 ≤ l.length) && (decide (l.length ≤ 3) && l.all isDigB))) := hok
  obtain ⟨nn, hnn⟩ : ∃ nn : Nat, nn = if ok then numTo l l.length else 0 := ⟨_, rfl⟩
  rw [← hnn]
  have HNN := hid hnn
  clear hs hsz hl hok hnn
  by_cases h1 : s.size < 1
  · have HF : Hid (ok = false ∧ nn = 0) := by
      have e : ok = false := by rw [HOK.out, ← HZ.out]; simp; omega
      exact ⟨e, by rw [HNN.out, e]; rfl⟩
    go_enter Tryz.func127, Tryz.ntmps127
    go_wp2
    go_ret2
    exact ⟨by rw [HF.out.1, HF.out.2]; rfl, rfl⟩
  · by_cases h3 : 3 < s.size
    · have HF : Hid (ok = false ∧ nn = 0) := by
        have e : ok = false := by rw [HOK.out, ← HZ.out]; simp; omega
        exact ⟨e, by rw [HNN.out, e]; rfl⟩
      go_enter Tryz.func127, Tryz.ntmps127
      go_wp2
      go_ret2
      exact ⟨by rw [HF.out.1, HF.out.2]; rfl, rfl⟩
    · go_enter Tryz.func127, Tryz.ntmps127
      go_wp2
      go_loop [4, 5] (fun n i => ∃ k : Nat, k ≤ s.size ∧ i = .int .i64 k ∧ n = .int .i64 ((numTo l k : Nat) : Int) ∧ digsIn l k = true) (fun _ i => s.size - (intOf i).toNat)
      case atStart => exact ⟨0, by omega, rfl, rfl, rfl⟩
      case round =>
        obtain ⟨k, hk, rfl, rfl, hdg⟩ := hrel
        have HDG := hid hdg
        have hnb : numTo l k < 1000 := Nat.lt_of_lt_of_le (HNB.out k (HDI.out k hdg)) (Nat.le_trans (Nat.pow_le_pow_right (by omega) (show k ≤ 3 by omega)) (by decide))
        clear hdg
        by_cases hlt : k < s.size
        · have HE := hid (HB.out k hlt)
          have HS : Hid (numTo l (k + 1) = numTo l k * 10 + ((l.getD k 0).toNat - 48)) := rfl
          rw [← HE.out] at HS
          generalize numTo l k = q at *
          have hbd : isDigB s[k] = decide (48 ≤ (s[k].toNat : Int) ∧ (s[k].toNat : Int) ≤ 57) := by
            unfold isDigB
            rw [Bool.eq_iff_iff]; simp [UInt8.le_iff_toNat_le]; omega
          have HBD := hid hbd
          clear hbd
          have no : isDigB s[k] = false → ok = false ∧ nn = 0 := fun hx => by
            have e : ok = false := by
              rw [HOK.out, HN.out k (by have := HZ.out; omega) (by rw [← HE.out]; exact hx)]; simp
            exact ⟨e, by rw [HNN.out, e]; rfl⟩
          have NO := hid no
          clear no
          by_cases g1 : (s[k].toNat : Int) < 48
          · have HF := hid (NO.out (by rw [HBD.out]; simp; omega))
            go_wp2
            go_ret2
            exact ⟨by rw [HF.out.1, HF.out.2]; rfl, rfl⟩
          · by_cases g2 : (57 : Int) < (s[k].toNat : Int)
            · have d1 : decide ((s[k].toNat : Int) < 48) = false := by simpa using g1
              have HF := hid (NO.out (by rw [HBD.out]; simp; omega))
              go_wp2
              go_ret2
              exact ⟨by rw [HF.out.1, HF.out.2]; rfl, rfl⟩
            · have d1 : decide ((s[k].toNat : Int) < 48) = false := by simpa using g1
              have d2 : decide ((57 : Int) < (s[k].toNat : Int)) = false := by simpa using g2
              have HG : Hid (digsIn l (k + 1) = true) := by
                show digsIn l (k + 1) = true
                rw [digsIn, HDG.out, ← HE.out, HBD.out]; simp; omega
              go_wp2
              go_round
              case rel => exact ⟨k + 1, by omega, by go_num, by rw [HS.out]; go_num, HG.out⟩
              case measure => simp [intOf]; omega
        · have hkn : k = s.size := by omega
          have HF : Hid (ok = true ∧ nn = numTo l k) := by
            have hall : l.all isDigB = true := by
              have := HDG.out
              rw [hkn, HZ.out, HDA.out _ (Nat.le_refl _), List.take_length] at this; exact this
            have e : ok = true := by rw [HOK.out, hall, ← HZ.out]; simp; omega
            exact ⟨e, by rw [HNN.out, e, hkn, HZ.out]; rfl⟩
          generalize numTo l k = q at *
          subst hkn
          go_wp2
          go_ret2
          exact ⟨by rw [HF.out.1, HF.out.2]; rfl, rfl⟩
end Go.Proofs.YtalaldfgjgpacaaGreatDoor

namespace Go.Proofs.YtalaldfgjgpacaaGreatDoor
set_option linter.unusedVariables false
set_option linter.unusedSimpArgs false
open Go.RowKit
attribute [local go_sem ↓] Go.wp_at_zero Go.wp_at_succ run_load63 run_store63
attribute [local go_sem] blkOf_mk offOf_mk isPt_mk isRow_pc Has_drew HasW_drew rowOf_drew HasW_new Has_alloc rowOf_alloc

/-- How many bytes there are ahead of the first semicolon. -/
def endTo (l : Bs) : Nat := (l.takeWhile (fun c => c != 59)).length
theorem endTo_none (l : Bs) (h : ∀ j, j < l.length → l.getD j 0 ≠ 59) : endTo l = l.length := by
  unfold endTo
  have e := List.takeWhile_append_of_pos (l₁ := l) (l₂ := []) (p := fun c => c != 59) (by
    intro x hx
    obtain ⟨j, hj, rfl⟩ := List.getElem_of_mem hx
    have := h j hj
    simp [List.getD, List.getElem?_eq_getElem hj] at this
    simpa using this)
  rw [List.append_nil, List.takeWhile_nil, List.append_nil] at e
  rw [e]
theorem endTo_at (l : Bs) (k : Nat) (hk : k < l.length) (h : ∀ j, j < k → l.getD j 0 ≠ 59) (h59 : l.getD k 0 = 59) : endTo l = k := by
  unfold endTo
  have e : l = l.take k ++ 59 :: l.drop (k + 1) := by
    have h1 : l[k] = 59 := by simpa [List.getD, List.getElem?_eq_getElem hk] using h59
    rw [← h1, ← List.drop_eq_getElem_cons hk, List.take_append_drop]
  rw [e, List.takeWhile_append_of_pos]
  · simp; omega
  · intro x hx
    obtain ⟨j, hj, rfl⟩ := List.getElem_of_mem hx
    have hj' : j < k := by simp at hj; omega
    have := h j hj'
    simp [List.getD, List.getElem?_eq_getElem (show j < l.length by omega)] at this
    simpa using this

set_option maxRecDepth 100000 in
set_option maxHeartbeats 1000000 in
theorem dotsEnd_any (l : Bs) (w : World) (hl : l.length ≤ 1000000000) :
    Calls Tryz.prog 150 #[.string ⟨l.toArray⟩] w fun e w' => e = .returned (.int .i64 ((endTo l : Nat) : Int)) ∧ w' = w := by
  obtain ⟨s, hs⟩ : ∃ s : ByteArray, s = ⟨l.toArray⟩ := ⟨_, rfl⟩
  have hsz : s.size = l.length := by rw [hs, bs_size]
  have HB : Hid (∀ k (hk : k < s.size), s[k]'hk = l.getD k 0) := by
    show ∀ k (hk : k < s.size), s[k]'hk = l.getD k 0
    subst hs; exact byte_at l
  have H1 := hid (endTo_none l)
  have H2 := hid (endTo_at l)
  have HZ := hid hsz
  have hl' : s.size ≤ 1000000000 := by omega
  rw [← hs]
  obtain ⟨t, ht⟩ : ∃ t, t = endTo l := ⟨_, rfl⟩
  rw [← ht]
  have HT := hid ht
  clear hs hsz hl ht
  go_enter Tryz.func150, Tryz.ntmps150
  go_wp2
  go_loop [3] (fun i => ∃ k : Nat, k ≤ s.size ∧ i = .int .i64 k ∧ ∀ j, j < k → l.getD j 0 ≠ 59) (fun i => s.size - (intOf i).toNat)
  case atStart => exact ⟨0, by omega, rfl, fun j hj => by omega⟩
  case round =>
    obtain ⟨k, hk, rfl, hno⟩ := hrel
    have HNO := hid hno
    clear hno
    by_cases hlt : k < s.size
    · have HE := hid (HB.out k hlt)
      have hb256 := (s[k]).toNat_lt
      by_cases h59 : ((s[k]).toNat : Int) = 59
      · have HF : Hid (t = k) := by
          show t = k
          rw [HT.out]
          refine H2.out k (by have := HZ.out; omega) HNO.out ?_
          rw [← HE.out]
          apply UInt8.toNat_inj.1
          show s[k].toNat = 59
          omega
        have h59' : (((s[k]).toNat : Int) == 59) = true := by simpa using h59
        go_wp2
        go_ret
        exact ⟨by rw [HF.out]; rfl, rfl⟩
      · have h59' : (((s[k]).toNat : Int) == 59) = false := by simpa using h59
        have HF : Hid (∀ j, j < k + 1 → l.getD j 0 ≠ 59) := by
          intro j hj
          by_cases e : j = k
          · subst e
            rw [← HE.out]
            intro e'
            rw [e'] at h59
            exact h59 rfl
          · exact HNO.out j (by omega)
        go_wp2
        go_round
        case rel => exact ⟨k + 1, by omega, by go_num, HF.out⟩
        case measure => simp [intOf]; omega
    · have hkn : k = s.size := by omega
      have HF : Hid (t = s.size) := by
        show t = s.size
        rw [HT.out, HZ.out]; exact H1.out (fun j hj => HNO.out j (by have := HZ.out; omega))
      subst hkn
      go_wp2
      go_ret
      exact ⟨by rw [HF.out]; rfl, rfl⟩
end Go.Proofs.YtalaldfgjgpacaaGreatDoor

namespace Go.Proofs.YtalaldfgjgpacaaGreatDoor
set_option linter.unusedVariables false
set_option linter.unusedSimpArgs false
open Go.RowKit
attribute [local go_sem ↓] Go.wp_at_zero Go.wp_at_succ

def dotOk (r n : Int) : Bool := decide (0 ≤ r) && (decide (r < 3) && (decide (1 ≤ n) && decide (n ≤ 9)))

set_option maxHeartbeats 1000000 in
theorem isDot_any (r n : Int) (w : World) :
    Calls Tryz.prog 160 #[.int .i64 r, .int .i64 n] w fun e w' => e = .returned (.bool (dotOk r n)) ∧ w' = w := by
  obtain ⟨t, ht⟩ : ∃ t, t = dotOk r n := ⟨_, rfl⟩
  rw [← ht]
  have HT : Hid (t = (decide (0 ≤ r) && (decide (r < 3) && (decide (1 ≤ n) && decide (n ≤ 9))))) := ht
  clear ht
  cases h1 : decide (0 ≤ r)
  · have HF : Hid (t = false) := by show t = false; rw [HT.out, h1]; rfl
    go_enter Tryz.func160, Tryz.ntmps160
    go_wp2
    go_ret
    exact ⟨by rw [HF.out]; rfl, rfl⟩
  · cases h2 : decide (r < 3)
    · have HF : Hid (t = false) := by show t = false; rw [HT.out, h1, h2]; rfl
      go_enter Tryz.func160, Tryz.ntmps160
      go_wp2
      go_ret
      exact ⟨by rw [HF.out]; rfl, rfl⟩
    · cases h3 : decide (1 ≤ n)
      · have HF : Hid (t = false) := by show t = false; rw [HT.out, h1, h2, h3]; rfl
        go_enter Tryz.func160, Tryz.ntmps160
        go_wp2
        go_ret
        exact ⟨by rw [HF.out]; rfl, rfl⟩
      · cases h4 : decide (n ≤ 9)
        · have HF : Hid (t = false) := by show t = false; rw [HT.out, h1, h2, h3, h4]; rfl
          go_enter Tryz.func160, Tryz.ntmps160
          go_wp2
          go_ret
          exact ⟨by rw [HF.out]; rfl, rfl⟩
        · have HF : Hid (t = true) := by show t = true; rw [HT.out, h1, h2, h3, h4]; rfl
          go_enter Tryz.func160, Tryz.ntmps160
          go_wp2
          go_ret
          exact ⟨by rw [HF.out]; rfl, rfl⟩

set_option maxRecDepth 100000 in
set_option maxHeartbeats 1000000 in
theorem withDot_no (p : Pc) (r n : Int) (w : World) (hno : dotOk r n = false) :
    Calls Tryz.prog 143 #[.agg p.arr, .int .i64 r, .int .i64 n] w fun e w' => e = .returned (.agg p.arr) ∧ Blw w w' := by
  have HI := hid (show (Tryz.prog.info? 65).map (·.size) = some p.arr.size by rw [size63, Pc.size])
  have HI' := hid (show (Tryz.prog.info? 65).map (·.size) = some p.cells.length by rw [size63, Pc.len])
  have HD := hid (fun wx => isDot_any r n wx)
  rw [hno] at HD
  have hg : ((w.alloc (.cells p.arr 65)).alloc (.cells Tryz.zeroCells65 65)).heap[w.heap.size]? = some (.cells p.arr 65) := hp_old _ (by simp) (hp_new _ _)
  have hz : ((w.alloc (.cells p.arr 65)).alloc (.cells Tryz.zeroCells65 65)).heap[w.heap.size + 1]? = some (.cells Tryz.zeroCells65 65) := hp_new2 w _ _
  clear hno
  go_enter Tryz.func143, Tryz.ntmps143
  go_wp2_with fail
  refine (HD.out _).mono ?_
  rintro e w2 ⟨rfl, hw2⟩
  subst w2
  go_wp2_with (first | (refine wpList_load_row (by rfl) 65 (.tmp 3) (by rfl) w.heap.size (by rfl) 65 p.arr (0, 0) _ hg Tryz.underlying65 rfl HI.out ?_) | (refine wpList_store_blk (by rfl) 65 (.tmp 6) (.tmp 11) (by rfl) (w.heap.size + 1) 0 p.cells (by rfl) (by rfl) Tryz.zeroCells65 65 hz (by rw [Pc.len, zsize63]; omega) HI'.out (Pc.one _) ?_))
  exact bodyPost_ret (results_cell_row rfl _ _ (w.heap.size + 1) 65 p.arr (0, 0) _ (by rfl) (hp_store p hz zsize63) Tryz.underlying65 rfl HI.out) rfl ⟨rfl, (((Blw.rfl _).al _).al _).scs _ _ _ (by omega)⟩

/-- The piece with a dot more. -/
def Pc.withDot (p : Pc) (r n : Nat) : Pc := if dotOk r n then p.put r (n - 1) { p r (n - 1) with known := true } else p

theorem withDot_gen (p : Pc) (r n : Nat) (w : World) :
    Calls Tryz.prog 143 #[.agg p.arr, .int .i64 r, .int .i64 n] w fun e w' => e = .returned (.agg (p.withDot r n).arr) ∧ Blw w w' := by
  unfold Pc.withDot
  cases hd : dotOk (r : Int) (n : Int)
  · exact withDot_no p r n w hd
  · simp only [dotOk, Bool.and_eq_true, decide_eq_true_eq] at hd
    have := withDot_any p r (n - 1) w (by omega) (by omega)
    rw [show (((n - 1 : Nat)) : Int) + 1 = (n : Int) by omega] at this
    exact this

/-- What a dot's text makes of a piece. -/
def Pc.dotText (p : Pc) (t : Bs) : Pc := if okD t then p.withDot (numTo t t.length / 10) (numTo t t.length % 10) else p

set_option maxRecDepth 100000 in
set_option maxHeartbeats 1000000 in
theorem withDotText_any (p : Pc) (t : Bs) (w : World) (hl : t.length ≤ 1000000) :
    Calls Tryz.prog 151 #[.agg p.arr, .string ⟨t.toArray⟩] w fun e w' => e = .returned (.agg (p.dotText t).arr) ∧ Blw w w' := by
  obtain ⟨q, hq⟩ : ∃ q, q = p.dotText t := ⟨_, rfl⟩
  rw [← hq]
  have HQ := hid hq
  have HR := hid (fun wx => dread_any t wx (by omega))
  have HI := hid (show (Tryz.prog.info? 65).map (·.size) = some p.arr.size by rw [size63, Pc.size])
  have HIq := hid (show (Tryz.prog.info? 65).map (·.size) = some q.arr.size by rw [size63, Pc.size])
  have HIq' := hid (show (Tryz.prog.info? 65).map (·.size) = some q.cells.length by rw [size63, Pc.len])
  have HW := hid (fun r n wx => withDot_gen p r n wx)
  have hg : ((w.alloc (.cells p.arr 65)).alloc (.cells Tryz.zeroCells65 65)).heap[w.heap.size]? = some (.cells p.arr 65) := hp_old _ (by simp) (hp_new _ _)
  have hz : ((w.alloc (.cells p.arr 65)).alloc (.cells Tryz.zeroCells65 65)).heap[w.heap.size + 1]? = some (.cells Tryz.zeroCells65 65) := hp_new2 w _ _
  have hnb : okD t = true → numTo t t.length < 1000 := fun h => by
    simp only [okD, Bool.and_eq_true, decide_eq_true_eq] at h
    refine Nat.lt_of_lt_of_le (numTo_bd t t.length (fun j hj => ?_)) (Nat.le_trans (Nat.pow_le_pow_right (by omega) h.2.1) (by decide))
    exact (List.all_eq_true.1 h.2.2) _ (by rw [List.getD_eq_getElem?_getD, List.getElem?_eq_getElem hj]; exact List.getElem_mem hj)
  clear hq
  go_enter Tryz.func151, Tryz.ntmps151
  go_wp2_with fail
  refine (HR.out _).mono ?_
  rintro e w2 ⟨rfl, hw2⟩
  subst w2
  cases hok : okD t
  · have hqp : q = p := by rw [HQ.out, Pc.dotText, hok]; rfl
    subst hqp
    go_wp2_with (first | (refine wpList_load_row (by rfl) 65 (.tmp 2) (by rfl) w.heap.size (by rfl) 65 q.arr (0, 0) _ hg Tryz.underlying65 rfl HI.out ?_) | (refine wpList_store_blk (by rfl) 65 (.tmp 4) (.tmp 14) (by rfl) (w.heap.size + 1) 0 q.cells (by rfl) (by rfl) Tryz.zeroCells65 65 hz (by rw [Pc.len, zsize63]; omega) HIq'.out (Pc.one _) ?_))
    exact bodyPost_ret (results_cell_row rfl _ _ (w.heap.size + 1) 65 q.arr (0, 0) _ (by rfl) (hp_store q hz zsize63) Tryz.underlying65 rfl HI.out) rfl ⟨rfl, (((Blw.rfl _).al _).al _).scs _ _ _ (by omega)⟩
  · have hqd : q = p.withDot (numTo t t.length / 10) (numTo t t.length % 10) := by rw [HQ.out, Pc.dotText, hok]; rfl
    have hlt := hnb hok
    generalize numTo t t.length = d at *
    have HWd := hid (HW.out (d / 10) (d % 10))
    rw [← hqd, show (((d / 10 : Nat)) : Int) = (d : Int) / 10 by omega, show (((d % 10 : Nat)) : Int) = (d : Int) % 10 by omega] at HWd
    clear hnb hqd HW
    simp only [if_true]
    go_wp2_with (first | (refine wpList_load_row (by rfl) 65 (.tmp 2) (by rfl) w.heap.size (by rfl) 65 p.arr (0, 0) _ hg Tryz.underlying65 rfl HI.out ?_))
    refine (HWd.out _).mono ?_
    rintro e w3 ⟨rfl, b3⟩
    have hz3 := b3.bk' hz
    clear hg hz
    go_wp2_with (first | (refine wpList_store_blk (by rfl) 65 (.tmp 4) (.tmp 20) (by rfl) (w.heap.size + 1) 0 q.cells (by rfl) (by rfl) Tryz.zeroCells65 65 hz3 (by rw [Pc.len, zsize63]; omega) HIq'.out (Pc.one _) ?_))
    exact bodyPost_ret (results_cell_row rfl _ _ (w.heap.size + 1) 65 q.arr (0, 0) _ (by rfl) (hp_store q hz3 zsize63) Tryz.underlying65 rfl HIq.out) rfl ⟨rfl, (Blw.tr (((Blw.rfl _).al _).al _) b3).scs _ _ _ (by omega)⟩
end Go.Proofs.YtalaldfgjgpacaaGreatDoor
