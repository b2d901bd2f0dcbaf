import Derived.Test.YtalaldfgjgpacaaGreatDoorHAG
import Derived.Test.YtalaldfgjgpacaaGreatDoorHAJ
import Derived.BigRegion
namespace Go.Proofs.YtalaldfgjgpacaaGreatDoor
set_option linter.unusedVariables false
set_option linter.unusedSimpArgs false
open Go.RowKit
attribute [local go_sem ↓] Go.wp_at_zero Go.wp_at_succ run_load63 run_store63
attribute [local go_sem] blkOf_mk offOf_mk isPt_mk isRow_pc Has_drew HasW_drew rowOf_drew HasW_new Has_alloc rowOf_alloc

/-- How many bytes there are ahead of the first semicolon. -/
def endTo (l : Bs) : Nat := (l.takeWhile (fun c => c != 59)).length
theorem endTo_none (l : Bs) (h : ∀ j, j < l.length → l.getD j 0 ≠ 59) : endTo l = l.length := by
  unfold endTo
  have e := List.takeWhile_append_of_pos (l₁ := l) (l₂ := []) (p := fun c => c != 59) (by
    intro x hx
    obtain ⟨j, hj, rfl⟩ := List.getElem_of_mem hx
    have := h j hj
    simp [List.getD, List.getElem?_eq_getElem hj] at this
    simpa using this)
  rw [List.append_nil, List.takeWhile_nil, List.append_nil] at e
  rw [e]
theorem endTo_at (l : Bs) (k : Nat) (hk : k < l.length) (h : ∀ j, j < k → l.getD j 0 ≠ 59) (h59 : l.getD k 0 = 59) : endTo l = k := by
  unfold endTo
  have e : l = l.take k ++ 59 :: l.drop (k + 1) := by
    have h1 : l[k] = 59 := by simpa [List.getD, List.getElem?_eq_getElem hk] using h59
    rw [← h1, ← List.drop_eq_getElem_cons hk, List.take_append_drop]
  rw [e, List.takeWhile_append_of_pos]
  · simp; omega
  · intro x hx
    obtain ⟨j, hj, rfl⟩ := List.getElem_of_mem hx
    have hj' : j < k := by simp at hj; omega
    have := h j hj'
    simp [List.getD, List.getElem?_eq_getElem (show j < l.length by omega)] at this
    simpa using this

set_option maxRecDepth 100000 in
set_option maxHeartbeats 1000000 in
theorem dotsEnd_any (l : Bs) (w : World) (hl : l.length ≤ 1000000000) :
    Calls Tryz.prog 150 #[.string ⟨l.toArray⟩] w fun e w' => e = .returned (.int .i64 ((endTo l : Nat) : Int)) ∧ w' = w := by
  obtain ⟨s, hs⟩ : ∃ s : ByteArray, s = ⟨l.toArray⟩ := ⟨_, rfl⟩
  have hsz : s.size = l.length := by rw [hs, bs_size]
  have HB : Hid (∀ k (hk : k < s.size), s[k]'hk = l.getD k 0) := by
    show ∀ k (hk : k < s.size), s[k]'hk = l.getD k 0
    subst hs; exact byte_at l
  have H1 := hid (endTo_none l)
  have H2 := hid (endTo_at l)
  have HZ := hid hsz
  have hl' : s.size ≤ 1000000000 := by omega
  rw [← hs]
  obtain ⟨t, ht⟩ : ∃ t, t = endTo l := ⟨_, rfl⟩
  rw [← ht]
  have HT := hid ht
  clear hs hsz hl ht
  go_enter Tryz.func150, Tryz.ntmps150
  go_wp2
  go_loop [3] (fun i => ∃ k : Nat, k ≤ s.size ∧ i = .int .i64 k ∧ ∀ j, j < k → l.getD j 0 ≠ 59) (fun i => s.size - (intOf i).toNat)
  case atStart => exact ⟨0, by omega, rfl, fun j hj => by omega⟩
  case round =>
    obtain ⟨k, hk, rfl, hno⟩ := hrel
    have HNO := hid hno
    clear hno
    by_cases hlt : k < s.size
    · have HE := hid (HB.out k hlt)
      have hb256 := (s[k]).toNat_lt
      by_cases h59 : ((s[k]).toNat : Int) = 59
      · have HF : Hid (t = k) := by
          show t = k
          rw [HT.out]
          refine H2.out k (by have := HZ.out; omega) HNO.out ?_
          rw [← HE.out]
          apply UInt8.toNat_inj.1
          show s[k].toNat = 59
          omega
        have h59' : (((s[k]).toNat : Int) == 59) = true := by simpa using h59
        go_wp2
        go_ret
        exact ⟨by rw [HF.out]; rfl, rfl⟩
      · have h59' : (((s[k]).toNat : Int) == 59) = false := by simpa using h59
        have HF : Hid (∀ j, j < k + 1 → l.getD j 0 ≠ 59) := by
          intro j hj
          by_cases e : j = k
          · subst e
            rw [← HE.out]
            intro e'
            rw [e'] at h59
            exact h59 rfl
          · exact HNO.out j (by omega)
        go_wp2
        go_round
        case rel => exact ⟨k + 1, by omega, by go_num, HF.out⟩
        case measure => simp [intOf]; omega
    · have hkn : k = s.size := by omega
      have HF : Hid (t = s.size) := by
        show t = s.size
        rw [HT.out, HZ.out]; exact H1.out (fun j hj => HNO.out j (by have := HZ.out; omega))
      subst hkn
      go_wp2
      go_ret
      exact ⟨by rw [HF.out]; rfl, rfl⟩
end Go.Proofs.YtalaldfgjgpacaaGreatDoor

namespace Go.Proofs.YtalaldfgjgpacaaGreatDoor
set_option linter.unusedVariables false
set_option linter.unusedSimpArgs false
open Go.RowKit
attribute [local go_sem ↓] Go.wp_at_zero Go.wp_at_succ

def dotOk (r n : Int) : Bool := decide (0 ≤ r) && (decide (r < 3) && (decide (1 ≤ n) && decide (n ≤ 9)))

set_option maxHeartbeats 1000000 in
theorem isDot_any (r n : Int) (w : World) :
    Calls Tryz.prog 160 #[.int .i64 r, .int .i64 n] w fun e w' => e = .returned (.bool (dotOk r n)) ∧ w' = w := by
  obtain ⟨t, ht⟩ : ∃ t, t = dotOk r n := ⟨_, rfl⟩
  rw [← ht]
  have HT : Hid (t = (decide (0 ≤ r) && (decide (r < 3) && (decide (1 ≤ n) && decide (n ≤ 9))))) := ht
  clear ht
  cases h1 : decide (0 ≤ r)
  · have HF : Hid (t = false) := by show t = false; rw [HT.out, h1]; rfl
    go_enter Tryz.func160, Tryz.ntmps160
    go_wp2
    go_ret
    exact ⟨by rw [HF.out]; rfl, rfl⟩
  · cases h2 : decide (r < 3)
    · have HF : Hid (t = false) := by show t = false; rw [HT.out, h1, h2]; rfl
      go_enter Tryz.func160, Tryz.ntmps160
      go_wp2
      go_ret
      exact ⟨by rw [HF.out]; rfl, rfl⟩
    · cases h3 : decide (1 ≤ n)
      · have HF : Hid (t = false) := by show t = false; rw [HT.out, h1, h2, h3]; rfl
        go_enter Tryz.func160, Tryz.ntmps160
        go_wp2
        go_ret
        exact ⟨by rw [HF.out]; rfl, rfl⟩
      · cases h4 : decide (n ≤ 9)
        · have HF : Hid (t = false) := by show t = false; rw [HT.out, h1, h2, h3, h4]; rfl
          go_enter Tryz.func160, Tryz.ntmps160
          go_wp2
          go_ret
          exact ⟨by rw [HF.out]; rfl, rfl⟩
        · have HF : Hid (t = true) := by show t = true; rw [HT.out, h1, h2, h3, h4]; rfl
          go_enter Tryz.func160, Tryz.ntmps160
          go_wp2
          go_ret
          exact ⟨by rw [HF.out]; rfl, rfl⟩

set_option maxRecDepth 100000 in
set_option maxHeartbeats 1000000 in
theorem withDot_no (p : Pc) (r n : Int) (w : World) (hno : dotOk r n = false) :
    Calls Tryz.prog 143 #[.agg p.arr, .int .i64 r, .int .i64 n] w fun e w' => e = .returned (.agg p.arr) ∧ Blw w w' := by
  have HI := hid (show (Tryz.prog.info? 65).map (·.size) = some p.arr.size by rw [size63, Pc.size])
  have HI' := hid (show (Tryz.prog.info? 65).map (·.size) = some p.cells.length by rw [size63, Pc.len])
  have HD := hid (fun wx => isDot_any r n wx)
  rw [hno] at HD
  have hg : ((w.alloc (.cells p.arr 65)).alloc (.cells Tryz.zeroCells65 65)).heap[w.heap.size]? = some (.cells p.arr 65) := hp_old _ (by simp) (hp_new _ _)
  have hz : ((w.alloc (.cells p.arr 65)).alloc (.cells Tryz.zeroCells65 65)).heap[w.heap.size + 1]? = some (.cells Tryz.zeroCells65 65) := hp_new2 w _ _
  clear hno
  go_enter Tryz.func143, Tryz.ntmps143
  go_wp2_with fail
  refine (HD.out _).mono ?_
  rintro e w2 ⟨rfl, hw2⟩
  subst w2
  go_wp2_with (first | (refine wpList_load_row (by rfl) 65 (.tmp 3) (by rfl) w.heap.size (by rfl) 65 p.arr (0, 0) _ hg Tryz.underlying65 rfl HI.out ?_) | (refine wpList_store_blk (by rfl) 65 (.tmp 6) (.tmp 11) (by rfl) (w.heap.size + 1) 0 p.cells (by rfl) (by rfl) Tryz.zeroCells65 65 hz (by rw [Pc.len, zsize63]; omega) HI'.out (Pc.one _) ?_))
  exact bodyPost_ret (results_cell_row rfl _ _ (w.heap.size + 1) 65 p.arr (0, 0) _ (by rfl) (hp_store p hz zsize63) Tryz.underlying65 rfl HI.out) rfl ⟨rfl, (((Blw.rfl _).al _).al _).scs _ _ _ (by omega)⟩

/-- The piece with a dot more. -/
def Pc.withDot (p : Pc) (r n : Nat) : Pc := if dotOk r n then p.put r (n - 1) { p r (n - 1) with known := true } else p

theorem withDot_gen (p : Pc) (r n : Nat) (w : World) :
    Calls Tryz.prog 143 #[.agg p.arr, .int .i64 r, .int .i64 n] w fun e w' => e = .returned (.agg (p.withDot r n).arr) ∧ Blw w w' := by
  unfold Pc.withDot
  cases hd : dotOk (r : Int) (n : Int)
  · exact withDot_no p r n w hd
  · simp only [dotOk, Bool.and_eq_true, decide_eq_true_eq] at hd
    have := withDot_any p r (n - 1) w (by omega) (by omega)
    rw [show (((n - 1 : Nat)) : Int) + 1 = (n : Int) by omega] at this
    exact this

/-- What a dot's text makes of a piece. -/
def Pc.dotText (p : Pc) (t : Bs) : Pc := if okD t then p.withDot (numTo t t.length / 10) (numTo t t.length % 10) else p

set_option maxRecDepth 100000 in
set_option maxHeartbeats 1000000 in
theorem withDotText_any (p : Pc) (t : Bs) (w : World) (hl : t.length ≤ 1000000) :
    Calls Tryz.prog 151 #[.agg p.arr, .string ⟨t.toArray⟩] w fun e w' => e = .returned (.agg (p.dotText t).arr) ∧ Blw w w' := by
  obtain ⟨q, hq⟩ : ∃ q, q = p.dotText t := ⟨_, rfl⟩
  rw [← hq]
  have HQ := hid hq
  have HR := hid (fun wx => dread_any t wx (by omega))
  have HI := hid (show (Tryz.prog.info? 65).map (·.size) = some p.arr.size by rw [size63, Pc.size])
  have HIq := hid (show (Tryz.prog.info? 65).map (·.size) = some q.arr.size by rw [size63, Pc.size])
  have HIq' := hid (show (Tryz.prog.info? 65).map (·.size) = some q.cells.length by rw [size63, Pc.len])
  have HW := hid (fun r n wx => withDot_gen p r n wx)
  have hg : ((w.alloc (.cells p.arr 65)).alloc (.cells Tryz.zeroCells65 65)).heap[w.heap.size]? = some (.cells p.arr 65) := hp_old _ (by simp) (hp_new _ _)
  have hz : ((w.alloc (.cells p.arr 65)).alloc (.cells Tryz.zeroCells65 65)).heap[w.heap.size + 1]? = some (.cells Tryz.zeroCells65 65) := hp_new2 w _ _
  have hnb : okD t = true → numTo t t.length < 1000 := fun h => by
    simp only [okD, Bool.and_eq_true, decide_eq_true_eq] at h
    refine Nat.lt_of_lt_of_le (numTo_bd t t.length (fun j hj => ?_)) (Nat.le_trans (Nat.pow_le_pow_right (by omega) h.2.1) (by decide))
    exact (List.all_eq_true.1 h.2.2) _ (by rw [List.getD_eq_getElem?_getD, List.getElem?_eq_getElem hj]; exact List.getElem_mem hj)
  clear hq
  go_enter Tryz.func151, Tryz.ntmps151
  go_wp2_with fail
  refine (HR.out _).mono ?_
  rintro e w2 ⟨rfl, hw2⟩
  subst w2
  cases hok : okD t
  · have hqp : q = p := by rw [HQ.out, Pc.dotText, hok]; rfl
    subst hqp
    go_wp2_with (first | (refine wpList_load_row (by rfl) 65 (.tmp 2) (by rfl) w.heap.size (by rfl) 65 q.arr (0, 0) _ hg Tryz.underlying65 rfl HI.out ?_) | (refine wpList_store_blk (by rfl) 65 (.tmp 4) (.tmp 14) (by rfl) (w.heap.size + 1) 0 q.cells (by rfl) (by rfl) Tryz.zeroCells65 65 hz (by rw [Pc.len, zsize63]; omega) HIq'.out (Pc.one _) ?_))
    exact bodyPost_ret (results_cell_row rfl _ _ (w.heap.size + 1) 65 q.arr (0, 0) _ (by rfl) (hp_store q hz zsize63) Tryz.underlying65 rfl HI.out) rfl ⟨rfl, (((Blw.rfl _).al _).al _).scs _ _ _ (by omega)⟩
  · have hqd : q = p.withDot (numTo t t.length / 10) (numTo t t.length % 10) := by rw [HQ.out, Pc.dotText, hok]; rfl
    have hlt := hnb hok
    generalize numTo t t.length = d at *
    have HWd := hid (HW.out (d / 10) (d % 10))
    rw [← hqd, show (((d / 10 : Nat)) : Int) = (d : Int) / 10 by omega, show (((d % 10 : Nat)) : Int) = (d : Int) % 10 by omega] at HWd
    clear hnb hqd HW
    simp only [if_true]
    go_wp2_with (first | (refine wpList_load_row (by rfl) 65 (.tmp 2) (by rfl) w.heap.size (by rfl) 65 p.arr (0, 0) _ hg Tryz.underlying65 rfl HI.out ?_))
    refine (HWd.out _).mono ?_
    rintro e w3 ⟨rfl, b3⟩
    have hz3 := b3.bk' hz
    clear hg hz
    go_wp2_with (first | (refine wpList_store_blk (by rfl) 65 (.tmp 4) (.tmp 20) (by rfl) (w.heap.size + 1) 0 q.cells (by rfl) (by rfl) Tryz.zeroCells65 65 hz3 (by rw [Pc.len, zsize63]; omega) HIq'.out (Pc.one _) ?_))
    exact bodyPost_ret (results_cell_row rfl _ _ (w.heap.size + 1) 65 q.arr (0, 0) _ (by rfl) (hp_store q hz3 zsize63) Tryz.underlying65 rfl HIq.out) rfl ⟨rfl, (Blw.tr (((Blw.rfl _).al _).al _) b3).scs _ _ _ (by omega)⟩
end Go.Proofs.YtalaldfgjgpacaaGreatDoor

namespace Go.Proofs.YtalaldfgjgpacaaGreatDoor
set_option linter.unusedVariables false
set_option linter.unusedSimpArgs false
open Go.RowKit
attribute [local go_sem ↓] Go.wp_at_zero Go.wp_at_succ

def entOk (c it v : Int) : Bool := !(decide (c < 0) || decide (3 ≤ c)) && (!(decide (it < 0) || decide (4 ≤ it)) && (decide (-99 ≤ v) && decide (v ≤ 99)))

set_option maxHeartbeats 2000000 in
theorem isEntry_any (c it v : Int) (w : World) :
    Calls Tryz.prog 161 #[.agg #[.int .i64 c, .int .i64 it, .int .i64 v]] w fun e w' => e = .returned (.bool (entOk c it v)) ∧ Blw w w' := by
  obtain ⟨t, ht⟩ : ∃ t, t = entOk c it v := ⟨_, rfl⟩
  rw [← ht]
  have HT : Hid (t = (!(decide (c < 0) || decide (3 ≤ c)) && (!(decide (it < 0) || decide (4 ≤ it)) && (decide (-99 ≤ v) && decide (v ≤ 99))))) := ht
  clear ht
  cases h1 : decide (c < 0)
  · cases h2 : decide (3 ≤ c)
    · cases h3 : decide (it < 0)
      · cases h4 : decide (4 ≤ it)
        · cases h5 : decide (-99 ≤ v)
          · have HF : Hid (t = false) := by show t = false; rw [HT.out, h1, h2, h3, h4, h5]; rfl
            go_enter Tryz.func161, Tryz.ntmps161
            go_wp2
            go_ret
            exact ⟨by rw [HF.out]; rfl, (Blw.rfl _).al _⟩
          · cases h6 : decide (v ≤ 99)
            · have HF : Hid (t = false) := by show t = false; rw [HT.out, h1, h2, h3, h4, h5, h6]; rfl
              go_enter Tryz.func161, Tryz.ntmps161
              go_wp2
              go_ret
              exact ⟨by rw [HF.out]; rfl, (Blw.rfl _).al _⟩
            · have HF : Hid (t = true) := by show t = true; rw [HT.out, h1, h2, h3, h4, h5, h6]; rfl
              go_enter Tryz.func161, Tryz.ntmps161
              go_wp2
              go_ret
              exact ⟨by rw [HF.out]; rfl, (Blw.rfl _).al _⟩
        · have HF : Hid (t = false) := by show t = false; rw [HT.out, h1, h2, h3, h4]; rfl
          go_enter Tryz.func161, Tryz.ntmps161
          go_wp2
          go_ret
          exact ⟨by rw [HF.out]; rfl, (Blw.rfl _).al _⟩
      · have HF : Hid (t = false) := by show t = false; rw [HT.out, h1, h2, h3]; rfl
        go_enter Tryz.func161, Tryz.ntmps161
        go_wp2
        go_ret
        exact ⟨by rw [HF.out]; rfl, (Blw.rfl _).al _⟩
    · have HF : Hid (t = false) := by show t = false; rw [HT.out, h1, h2]; rfl
      go_enter Tryz.func161, Tryz.ntmps161
      go_wp2
      go_ret
      exact ⟨by rw [HF.out]; rfl, (Blw.rfl _).al _⟩
  · have HF : Hid (t = false) := by show t = false; rw [HT.out, h1]; rfl
    go_enter Tryz.func161, Tryz.ntmps161
    go_wp2
    go_ret
    exact ⟨by rw [HF.out]; rfl, (Blw.rfl _).al _⟩

set_option maxRecDepth 100000 in
set_option maxHeartbeats 2000000 in
theorem withEntry_no (p : Pc) (r n c it v : Int) (w : World) (hno : (dotOk r n && entOk c it v) = false) :
    Calls Tryz.prog 139 #[.agg p.arr, .int .i64 r, .int .i64 n, .agg #[.int .i64 c, .int .i64 it, .int .i64 v]] w fun e w' => e = .returned (.agg p.arr) ∧ Blw w w' := by
  have HI := hid (show (Tryz.prog.info? 65).map (·.size) = some p.arr.size by rw [size63, Pc.size])
  have HI' := hid (show (Tryz.prog.info? 65).map (·.size) = some p.cells.length by rw [size63, Pc.len])
  have HD := hid (fun wx => isDot_any r n wx)
  have HE := hid (fun wx => isEntry_any c it v wx)
  obtain ⟨w3, hw3⟩ : ∃ w3, w3 = ((w.alloc (.cells p.arr 65)).alloc (.cells #[.int .i64 c, .int .i64 it, .int .i64 v] 59)).alloc (.cells Tryz.zeroCells65 65) := ⟨_, rfl⟩
  have hg : w3.heap[w.heap.size]? = some (.cells p.arr 65) := by rw [hw3]; exact hp_old _ (by simp; omega) (hp_old _ (by simp) (hp_new _ _))
  have he : w3.heap[w.heap.size + 1]? = some (.cells #[.int .i64 c, .int .i64 it, .int .i64 v] 59) := by rw [hw3]; exact hp_old _ (by simp) (hp_new2 w _ _)
  have hz : w3.heap[w.heap.size + 1 + 1]? = some (.cells Tryz.zeroCells65 65) := by rw [hw3]; simpa using hp_new ((w.alloc (.cells p.arr 65)).alloc (.cells #[.int .i64 c, .int .i64 it, .int .i64 v] 59)) _
  have B3 : Hid (Blw w w3) := by rw [hw3]; exact (((Blw.rfl _).al _).al _).al _
  go_enter Tryz.func139, Tryz.ntmps139
  go_wp2_with fail
  rw [← hw3]
  clear hw3
  refine (HD.out _).mono ?_
  rintro e w2 ⟨rfl, hw2⟩
  subst w2
  cases hd : dotOk r n
  · go_wp2_with (first | (refine wpList_load_row (by rfl) 65 (.tmp 4) (by rfl) w.heap.size (by rfl) 65 p.arr (0, 0) _ hg Tryz.underlying65 rfl HI.out ?_) | (refine wpList_store_blk (by rfl) 65 (.tmp 8) (.tmp 13) (by rfl) (w.heap.size + 1 + 1) 0 p.cells (by rfl) (by rfl) Tryz.zeroCells65 65 hz (by rw [Pc.len, zsize63]; omega) HI'.out (Pc.one _) ?_))
    exact bodyPost_ret (results_cell_row rfl _ _ (w.heap.size + 1 + 1) 65 p.arr (0, 0) _ (by rfl) (hp_store p hz zsize63) Tryz.underlying65 rfl HI.out) rfl ⟨rfl, B3.out.scs _ _ _ (by omega)⟩
  · rw [hd] at hno
    have hne : entOk c it v = false := by simpa using hno
    rw [hne] at HE
    have e0 : w3.cell? ⟨w.heap.size + 1, 0, none⟩ = some (.int .i64 c) := blk_cell he 0
    have e1 : w3.cell? ⟨w.heap.size + 1, 1, none⟩ = some (.int .i64 it) := blk_cell he 1
    have e2 : w3.cell? ⟨w.heap.size + 1, 2, none⟩ = some (.int .i64 v) := blk_cell he 2
    clear hno hne hd
    go_wp2_with fail
    refine (HE.out _).mono ?_
    rintro e w4 ⟨rfl, b4⟩
    have hg4 := b4.bk' hg
    have hz4 := b4.bk' hz
    clear hg hz he e0 e1 e2
    go_wp2_with (first | (refine wpList_load_row (by rfl) 65 (.tmp 4) (by rfl) w.heap.size (by rfl) 65 p.arr (0, 0) _ hg4 Tryz.underlying65 rfl HI.out ?_) | (refine wpList_store_blk (by rfl) 65 (.tmp 8) (.tmp 17) (by rfl) (w.heap.size + 1 + 1) 0 p.cells (by rfl) (by rfl) Tryz.zeroCells65 65 hz4 (by rw [Pc.len, zsize63]; omega) HI'.out (Pc.one _) ?_))
    exact bodyPost_ret (results_cell_row rfl _ _ (w.heap.size + 1 + 1) 65 p.arr (0, 0) _ (by rfl) (hp_store p hz4 zsize63) Tryz.underlying65 rfl HI.out) rfl ⟨rfl, (B3.out.tr b4).scs _ _ _ (by omega)⟩

/-- The piece with a dot and its entry. -/
def Pc.withEnt (p : Pc) (r n : Nat) (c it v : Int) : Pc := if dotOk r n && entOk c it v then p.put r (n - 1) ⟨true, true, c, it, v⟩ else p

theorem withEntry_gen (p : Pc) (r n : Nat) (c it v : Int) (w : World) :
    Calls Tryz.prog 139 #[.agg p.arr, .int .i64 r, .int .i64 n, .agg #[.int .i64 c, .int .i64 it, .int .i64 v]] w fun e w' => e = .returned (.agg (p.withEnt r n c it v).arr) ∧ Blw w w' := by
  unfold Pc.withEnt
  cases hd : (dotOk (r : Int) (n : Int) && entOk c it v)
  · exact withEntry_no p r n c it v w hd
  · simp only [dotOk, entOk, Bool.and_eq_true, decide_eq_true_eq, Bool.not_eq_true', Bool.or_eq_false_iff, decide_eq_false_iff_not] at hd
    have := withEntry_any p r (n - 1) c it v w (by omega) (by omega) (by omega) (by omega) (by omega) (by omega) (by omega) (by omega)
    rw [show (((n - 1 : Nat)) : Int) + 1 = (n : Int) by omega] at this
    exact this
end Go.Proofs.YtalaldfgjgpacaaGreatDoor

namespace Go.Proofs.YtalaldfgjgpacaaGreatDoor
set_option linter.unusedVariables false
set_option linter.unusedSimpArgs false
open Go.RowKit
attribute [local go_sem ↓] Go.wp_at_zero Go.wp_at_succ

/-- What an entry's text makes of a piece. -/
def Pc.entText (p : Pc) (t : Bs) : Pc :=
  if okD ((t.drop 2).take 2) && okD ((t.drop 5).take 2) then
    p.withEnt (numTo ((t.drop 2).take 2) 2 / 10) (numTo ((t.drop 2).take 2) 2 % 10) (((t.getD 0 0).toNat : Int) - 97) (((t.getD 1 0).toNat : Int) - 65) (if t.getD 4 0 = 45 then -(numTo ((t.drop 5).take 2) 2 : Int) else (numTo ((t.drop 5).take 2) 2 : Int))
  else p

theorem numTo_ok (t : Bs) (h : okD t = true) : numTo t t.length < 1000 := by
  simp only [okD, Bool.and_eq_true, decide_eq_true_eq] at h
  refine Nat.lt_of_lt_of_le (numTo_bd t t.length (fun j hj => ?_)) (Nat.le_trans (Nat.pow_le_pow_right (by omega) h.2.1) (by decide))
  exact (List.all_eq_true.1 h.2.2) _ (by rw [List.getD_eq_getElem?_getD, List.getElem?_eq_getElem hj]; exact List.getElem_mem hj)

set_option maxRecDepth 100000 in
set_option maxHeartbeats 4000000 in
theorem withEntryText_any (p : Pc) (t : Bs) (w : World) (hl : t.length = 7) :
    Calls Tryz.prog 152 #[.agg p.arr, .string ⟨t.toArray⟩] w fun e w' => e = .returned (.agg (p.entText t).arr) ∧ Blw w w' := by
  obtain ⟨q, hq⟩ : ∃ q, q = p.entText t := ⟨_, rfl⟩
  rw [← hq]
  have HQ := hid hq
  obtain ⟨y, hy⟩ : ∃ y : ByteArray, y = ⟨t.toArray⟩ := ⟨_, rfl⟩
  have hy7 : y.size = 7 := by rw [hy, bs_size, hl]
  have HX1 : Hid (y.extract 2 4 = ByteArray.mk ((t.drop 2).take 2).toArray) := by rw [hy]; exact bs_extract t 2 4
  have HX2 : Hid (y.extract 5 7 = ByteArray.mk ((t.drop 5).take 2).toArray) := by rw [hy]; exact bs_extract t 5 7
  have HBy : Hid (∀ k (hk : k < y.size), y[k]'hk = t.getD k 0) := by
    show ∀ k (hk : k < y.size), y[k]'hk = t.getD k 0
    subst hy; exact byte_at t
  have la : ((t.drop 2).take 2).length = 2 := by simp [hl]
  have lb : ((t.drop 5).take 2).length = 2 := by simp [hl]
  have HDa := hid (fun wx => dread_any ((t.drop 2).take 2) wx (by omega))
  have HDb := hid (fun wx => dread_any ((t.drop 5).take 2) wx (by omega))
  have Na := hid (numTo_ok ((t.drop 2).take 2))
  have Nb := hid (numTo_ok ((t.drop 5).take 2))
  rw [la] at HDa Na
  rw [lb] at HDb Nb
  have HI := hid (show (Tryz.prog.info? 65).map (·.size) = some p.arr.size by rw [size63, Pc.size])
  have HIq := hid (show (Tryz.prog.info? 65).map (·.size) = some q.arr.size by rw [size63, Pc.size])
  have HIq' := hid (show (Tryz.prog.info? 65).map (·.size) = some q.cells.length by rw [size63, Pc.len])
  have HW := hid (fun r n c it v wx => withEntry_gen p r n c it v wx)
  obtain ⟨w1, hw1⟩ : ∃ w1, w1 = (w.alloc (.cells p.arr 65)).alloc (.cells Tryz.zeroCells65 65) := ⟨_, rfl⟩
  have hg : w1.heap[w.heap.size]? = some (.cells p.arr 65) := by rw [hw1]; exact hp_old _ (by simp) (hp_new _ _)
  have hz : w1.heap[w.heap.size + 1]? = some (.cells Tryz.zeroCells65 65) := by rw [hw1]; exact hp_new2 w _ _
  have B1 : Hid (Blw w w1) := by rw [hw1]; exact ((Blw.rfl _).al _).al _
  rw [← hy]
  clear hq hy
  have back : okD ((t.drop 2).take 2) = false ∨ okD ((t.drop 5).take 2) = false → q = p := fun h => by
    rw [HQ.out, Pc.entText]
    rcases h with h | h <;> rw [h] <;> simp
  have BK := hid back
  clear back
  go_enter Tryz.func152, Tryz.ntmps152
  go_wp2_with fail
  rw [← hw1, HX1.out]
  clear hw1
  refine (HDa.out _).mono ?_
  rintro e w2 ⟨rfl, hw2⟩
  subst w2
  cases hoa : okD ((t.drop 2).take 2)
  · have hqp : q = p := BK.out (.inl hoa)
    subst hqp
    go_wp2_with (first | (refine wpList_load_row (by rfl) 65 (.tmp 2) (by rfl) w.heap.size (by rfl) 65 q.arr (0, 0) _ hg Tryz.underlying65 rfl HI.out ?_) | (refine wpList_store_blk (by rfl) 65 (.tmp 4) (.tmp 21) (by rfl) (w.heap.size + 1) 0 q.cells (by rfl) (by rfl) Tryz.zeroCells65 65 hz (by rw [Pc.len, zsize63]; omega) HIq'.out (Pc.one _) ?_))
    exact bodyPost_ret (results_cell_row rfl _ _ (w.heap.size + 1) 65 q.arr (0, 0) _ (by rfl) (hp_store q hz zsize63) Tryz.underlying65 rfl HI.out) rfl ⟨rfl, B1.out.scs _ _ _ (by omega)⟩
  · have na := Na.out hoa
    simp only [if_true]
    go_wp2_with fail
    rw [HX2.out]
    refine (HDb.out _).mono ?_
    rintro e w2 ⟨rfl, hw2⟩
    subst w2
    cases hob : okD ((t.drop 5).take 2)
    · have hqp : q = p := BK.out (.inr hob)
      subst hqp
      go_wp2_with (first | (refine wpList_load_row (by rfl) 65 (.tmp 2) (by rfl) w.heap.size (by rfl) 65 q.arr (0, 0) _ hg Tryz.underlying65 rfl HI.out ?_) | (refine wpList_store_blk (by rfl) 65 (.tmp 4) (.tmp 30) (by rfl) (w.heap.size + 1) 0 q.cells (by rfl) (by rfl) Tryz.zeroCells65 65 hz (by rw [Pc.len, zsize63]; omega) HIq'.out (Pc.one _) ?_))
      exact bodyPost_ret (results_cell_row rfl _ _ (w.heap.size + 1) 65 q.arr (0, 0) _ (by rfl) (hp_store q hz zsize63) Tryz.underlying65 rfl HI.out) rfl ⟨rfl, B1.out.scs _ _ _ (by omega)⟩
    · have nb := Nb.out hob
      simp only [if_true]
      have h0 : 0 < y.size := by omega
      have h1 : 1 < y.size := by omega
      have h4 : 4 < y.size := by omega
      have hb0 := (y[0]'h0).toNat_lt
      have hb1 := (y[1]'h1).toNat_lt
      have hqe : q = p.withEnt (numTo ((t.drop 2).take 2) 2 / 10) (numTo ((t.drop 2).take 2) 2 % 10) (((y[0]'h0).toNat : Int) - 97) (((y[1]'h1).toNat : Int) - 65) (if (y[4]'h4) = 45 then -(numTo ((t.drop 5).take 2) 2 : Int) else (numTo ((t.drop 5).take 2) 2 : Int)) := by
        rw [HQ.out, Pc.entText, hoa, hob, HBy.out 0 h0, HBy.out 1 h1, HBy.out 4 h4]; rfl
      generalize numTo ((t.drop 2).take 2) 2 = d at *
      generalize numTo ((t.drop 5).take 2) 2 = vv at *
      cases hs : decide ((y[4]'h4) = 45)
      · have hs' : ¬ (y[4]'h4) = 45 := by simpa using hs
        have h45 : ((((y[4]'h4).toNat : Nat) : Int) == 45) = false := by
          rw [beq_eq_false_iff_ne]; intro h
          exact hs' (UInt8.toNat_inj.1 (by show (y[4]'h4).toNat = 45; omega))
        clear hs
        rw [if_neg hs'] at hqe
        have HQE := hid hqe
        clear hqe
        go_upto_region 11 with fail
        go_region
        go_upto_region 12 with fail
        obtain ⟨w2, hw2⟩ : ∃ w2, w2 = (w1.alloc (.cells #[.int .i64 (((y[0]'h0).toNat : Int) - 97), .int .i64 (((y[1]'h1).toNat : Int) - 65), .int .i64 ((vv : Int))] 59)).drew := ⟨_, rfl⟩
        have G1 : w2.heap[w.heap.size]? = some (.cells p.arr 65) := by rw [hw2]; exact hp_old _ (Array.getElem?_eq_some_iff.1 hg).1 hg
        have Z1 : w2.heap[w.heap.size + 1]? = some (.cells Tryz.zeroCells65 65) := by rw [hw2]; exact hp_old _ (Array.getElem?_eq_some_iff.1 hz).1 hz
        have E1 : w2.heap[w1.heap.size]? = some (.cells #[.int .i64 (((y[0]'h0).toNat : Int) - 97), .int .i64 (((y[1]'h1).toNat : Int) - 65), .int .i64 ((vv : Int))] 59) := by rw [hw2]; exact hp_new _ _
        have B2 : Hid (Blw w w2) := by rw [hw2]; exact (B1.out.al _).dr
        have e0 : w2.cell? ⟨w1.heap.size, 0, none⟩ = some (.int .i64 (((y[0]'h0).toNat : Int) - 97)) := blk_cell E1 0
        have e1 : w2.cell? ⟨w1.heap.size, 1, none⟩ = some (.int .i64 (((y[1]'h1).toNat : Int) - 65)) := blk_cell E1 1
        have e2 : w2.cell? ⟨w1.heap.size, 2, none⟩ = some (.int .i64 ((vv : Int))) := blk_cell E1 2
        have HW2 := hid (HW.out (d / 10) (d % 10) (((y[0]'h0).toNat : Int) - 97) (((y[1]'h1).toNat : Int) - 65) ((vv : Int)) w2)
        rw [← HQE.out, Int.natCast_ediv, Int.natCast_emod] at HW2
        rw [← hw2]
        clear hw2 hg hz E1
        go_wp2_with (first | (refine wpList_load_row (by rfl) 65 (.tmp 2) (by rfl) w.heap.size (by rfl) 65 p.arr (0, 0) _ G1 Tryz.underlying65 rfl HI.out ?_))
        refine HW2.out.mono ?_
        rintro e w3 ⟨rfl, b3⟩
        have Z3 := b3.bk' Z1
        clear G1 Z1 e0 e1 e2
        go_wp2_with (first | (refine wpList_store_blk (by rfl) 65 (.tmp 4) (.tmp 52) (by rfl) (w.heap.size + 1) 0 q.cells (by rfl) (by rfl) Tryz.zeroCells65 65 Z3 (by rw [Pc.len, zsize63]; omega) HIq'.out (Pc.one _) ?_))
        exact bodyPost_ret (results_cell_row rfl _ _ (w.heap.size + 1) 65 q.arr (0, 0) _ (by rfl) (hp_store q Z3 zsize63) Tryz.underlying65 rfl HIq.out) rfl ⟨rfl, (B2.out.tr b3).scs _ _ _ (by omega)⟩
      · have hs' : (y[4]'h4) = 45 := by simpa using hs
        have h45 : ((((y[4]'h4).toNat : Nat) : Int) == 45) = true := by rw [hs']; rfl
        clear hs
        rw [if_pos hs'] at hqe
        have HQE := hid hqe
        clear hqe
        go_upto_region 11 with fail
        go_region
        go_upto_region 12 with fail
        obtain ⟨w2, hw2⟩ : ∃ w2, w2 = (w1.alloc (.cells #[.int .i64 (((y[0]'h0).toNat : Int) - 97), .int .i64 (((y[1]'h1).toNat : Int) - 65), .int .i64 (-(vv : Int))] 59)).drew := ⟨_, rfl⟩
        have G1 : w2.heap[w.heap.size]? = some (.cells p.arr 65) := by rw [hw2]; exact hp_old _ (Array.getElem?_eq_some_iff.1 hg).1 hg
        have Z1 : w2.heap[w.heap.size + 1]? = some (.cells Tryz.zeroCells65 65) := by rw [hw2]; exact hp_old _ (Array.getElem?_eq_some_iff.1 hz).1 hz
        have E1 : w2.heap[w1.heap.size]? = some (.cells #[.int .i64 (((y[0]'h0).toNat : Int) - 97), .int .i64 (((y[1]'h1).toNat : Int) - 65), .int .i64 (-(vv : Int))] 59) := by rw [hw2]; exact hp_new _ _
        have B2 : Hid (Blw w w2) := by rw [hw2]; exact (B1.out.al _).dr
        have e0 : w2.cell? ⟨w1.heap.size, 0, none⟩ = some (.int .i64 (((y[0]'h0).toNat : Int) - 97)) := blk_cell E1 0
        have e1 : w2.cell? ⟨w1.heap.size, 1, none⟩ = some (.int .i64 (((y[1]'h1).toNat : Int) - 65)) := blk_cell E1 1
        have e2 : w2.cell? ⟨w1.heap.size, 2, none⟩ = some (.int .i64 (-(vv : Int))) := blk_cell E1 2
        have HW2 := hid (HW.out (d / 10) (d % 10) (((y[0]'h0).toNat : Int) - 97) (((y[1]'h1).toNat : Int) - 65) (-(vv : Int)) w2)
        rw [← HQE.out, Int.natCast_ediv, Int.natCast_emod] at HW2
        rw [← hw2]
        clear hw2 hg hz E1
        go_wp2_with (first | (refine wpList_load_row (by rfl) 65 (.tmp 2) (by rfl) w.heap.size (by rfl) 65 p.arr (0, 0) _ G1 Tryz.underlying65 rfl HI.out ?_))
        refine HW2.out.mono ?_
        rintro e w3 ⟨rfl, b3⟩
        have Z3 := b3.bk' Z1
        clear G1 Z1 e0 e1 e2
        go_wp2_with (first | (refine wpList_store_blk (by rfl) 65 (.tmp 4) (.tmp 52) (by rfl) (w.heap.size + 1) 0 q.cells (by rfl) (by rfl) Tryz.zeroCells65 65 Z3 (by rw [Pc.len, zsize63]; omega) HIq'.out (Pc.one _) ?_))
        exact bodyPost_ret (results_cell_row rfl _ _ (w.heap.size + 1) 65 q.arr (0, 0) _ (by rfl) (hp_store q Z3 zsize63) Tryz.underlying65 rfl HIq.out) rfl ⟨rfl, (B2.out.tr b3).scs _ _ _ (by omega)⟩
end Go.Proofs.YtalaldfgjgpacaaGreatDoor
