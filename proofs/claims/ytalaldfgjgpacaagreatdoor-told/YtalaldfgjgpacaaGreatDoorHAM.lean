import Derived.Test.YtalaldfgjgpacaaGreatDoorHAI
import Derived.Test.YtalaldfgjgpacaaGreatDoorHAJ
import Derived.Test.YtalaldfgjgpacaaGreatDoorHAL
namespace Go.Proofs.YtalaldfgjgpacaaGreatDoor
set_option linter.unusedVariables false
set_option linter.unusedSimpArgs false
open Go.RowKit
attribute [local go_sem ↓] Go.wp_at_zero Go.wp_at_succ run_load63 run_store63
attribute [local go_sem] blkOf_mk offOf_mk isPt_mk isRow_pc Has_drew HasW_drew rowOf_drew HasW_new Has_alloc rowOf_alloc

/-- Whether a delta's text may be taken in by a replica that holds h. -/
def deltaOk (n : Nat) (h : Pc) (l : Bs) : Bool := readOk l && (fitsB n h (readP l) && decide (h.dots < (h.join (readP l)).dots))

def deltaTo (n : Nat) (h : Pc) (l : Bs) : Pc := if deltaOk n h l then h.join (readP l) else h
def deltaX (n : Nat) (h : Pc) (x : Ext) (l : Bs) : Ext := if deltaOk n h l then x.take (readP l) else x

theorem readP_ok (l : Bs) : (readP l).ok := by
  unfold readP
  split
  · exact gather_ok l
  · exact Pc.empty_ok

set_option maxRecDepth 100000 in
set_option maxHeartbeats 4000000 in
theorem readDelta_any (b me n : Nat) (h0 : Pc) (x : Ext) (l : Bs) (w : World) (hl : l.length ≤ 1000000) (hn : n ≤ 3) (hx : x.small) (ht : Tab Tryz.prog w) (h : w.heap[b]? = some (.cells (repArr me n h0 x) 69)) :
    Calls Tryz.prog 158 #[.pointer (some ⟨b, 0, none⟩), .string ⟨l.toArray⟩] w fun e w' => e = .returned (.bool (deltaOk n h0 l)) ∧ RepTo b me n (deltaTo n h0 l) (deltaX n h0 x l) w w' := by
  have HR := hid (fun wx => pread_any l wx hl)
  have HO : Hid (deltaOk n h0 l = (readOk l && (fitsB n h0 (readP l) && decide (h0.dots < (h0.join (readP l)).dots)))) := rfl
  have HT : Hid (deltaTo n h0 l = if deltaOk n h0 l then h0.join (readP l) else h0) := rfl
  have HX : Hid (deltaX n h0 x l = if deltaOk n h0 l then x.take (readP l) else x) := rfl
  have HQ := hid (readP_ok l)
  generalize deltaTo n h0 l = dt at *
  generalize deltaX n h0 x l = dx at *
  generalize deltaOk n h0 l = dk at *
  generalize readP l = q at *
  generalize readOk l = ok at *
  have HF := hid (fun wx hw => checkPiece_any b me n h0 q x wx hn hw)
  have HCE := hid (checkE_fits n h0 q)
  generalize checkE n h0 q = ce at *
  have HN := hid (fun wx hw => hasNews_any b me n h0 q x wx hw)
  have HL := hid (fun wx ht' hw => takeIn_any b me n h0 q x wx HQ.out hx ht' hw)
  generalize fitsB n h0 q = ft at *
  generalize decide (h0.dots < (h0.join q).dots) = nw at *
  have H := hid h
  have T := hid ht
  clear h ht hx hn
  go_enter Tryz.func158, Tryz.ntmps158
  go_wp2_with fail
  refine (HR.out _).mono ?_
  rintro e w1 ⟨rfl, b1⟩
  have G1 := hid (b1.bk' H.out)
  have B1 := hid b1
  clear b1
  go_upto_region 2 with fail
  obtain ⟨w2, hw2⟩ : ∃ w2, w2 = putRowAt (w1.alloc (.cells Tryz.zeroCells65 65)) w1.heap.size 0 (.agg q.arr) := ⟨_, rfl⟩
  have hlt : b < w1.heap.size := (Array.getElem?_eq_some_iff.1 G1.out).1
  have hsz := B1.out.sz
  have G2 : Hid (w2.heap[b]? = some (.cells (repArr me n h0 x) 69)) := by rw [hw2]; exact (put_ne (by omega)).trans (hp_old _ hlt G1.out)
  have K2 : Hid (w2.heap[w1.heap.size]? = some (.cells q.arr 65)) := by rw [hw2]; exact put_new
  have B2 : Hid (Blw w w2) := by rw [hw2]; exact put_blw (B1.out.al _) _ _ (by omega)
  rw [← hw2]
  clear hw2 G1 B1
  generalize w1.heap.size = c at *
  have hrow := rowOf_pc K2.out
  have hhas := Has_pc K2.out
  cases ok
  · have HE : Hid (dk = false) := by show _ = _; rw [HO.out]; rfl
    go_wp2
    go_ret
    rw [HT.out, HX.out, HE.out]; simp only [Bool.false_eq_true, if_false]
    exact ⟨rfl, ⟨G2.out, B2.out.bx b⟩⟩
  · go_wp2_with fail
    refine (HF.out _ G2.out).mono ?_
    rintro e w3 ⟨rfl, b3⟩
    have G3 := hid (b3.bk' G2.out)
    have K3 := hid (b3.bk' K2.out)
    have B3 := hid (B2.out.tr b3)
    clear G2 K2 B2 b3 hrow hhas
    have hrow := rowOf_pc K3.out
    have hhas := Has_pc K3.out
    by_cases hce : ¬ ce = 0
    · have hft : ft = false := by rw [HCE.out]; exact decide_eq_false hce
      subst hft
      have hcb : (ce == 0) = false := by simpa using hce
      have HE : Hid (dk = false) := by show _ = _; rw [HO.out]; rfl
      go_wp2
      go_ret
      rw [HT.out, HX.out, HE.out]; simp only [Bool.false_eq_true, if_false]
      exact ⟨rfl, ⟨G3.out, B3.out.bx b⟩⟩
    · have hce' : ce = 0 := Classical.byContradiction hce
      have hft : ft = true := by rw [HCE.out]; exact decide_eq_true hce'
      subst hft
      subst hce'
      go_wp2_with fail
      refine (HN.out _ G3.out).mono ?_
      rintro e w4 ⟨rfl, b4⟩
      have G4 := hid (b4.bk' G3.out)
      have K4 := hid (b4.bk' K3.out)
      have B4 := hid (B3.out.tr b4)
      clear G3 K3 B3 b4 hrow hhas
      have hrow := rowOf_pc K4.out
      have hhas := Has_pc K4.out
      cases nw
      · have HE : Hid (dk = false) := by show _ = _; rw [HO.out]; rfl
        go_wp2
        go_ret
        rw [HT.out, HX.out, HE.out]; simp only [Bool.false_eq_true, if_false]
        exact ⟨rfl, ⟨G4.out, B4.out.bx b⟩⟩
      · have HE : Hid (dk = true) := by show _ = _; rw [HO.out]; rfl
        go_wp2_with fail
        refine (HL.out _ (T.out.blw B4.out) G4.out).mono ?_
        rintro e w5 ⟨rfl, r5⟩
        have R5 := hid r5
        clear r5
        go_wp2
        go_ret
        rw [HT.out, HX.out, HE.out]; simp only [if_true]
        exact ⟨rfl, ⟨R5.out.1, Bx.tr (B4.out.bx b) R5.out.2⟩⟩
end Go.Proofs.YtalaldfgjgpacaaGreatDoor

namespace Go.Proofs.YtalaldfgjgpacaaGreatDoor
set_option linter.unusedVariables false
set_option linter.unusedSimpArgs false

theorem holeTo_iff (p : Pc) (n : Nat) : p.holeTo n = true ↔ ∃ m, m < n ∧ holeAt p m = true := by
  induction n with
  | zero => simp [Pc.holeTo]
  | succ n ih =>
    rw [Pc.holeTo, Bool.or_eq_true, ih]
    constructor
    · rintro (⟨m, hm, h⟩ | h)
      · exact ⟨m, by omega, h⟩
      · exact ⟨n, by omega, h⟩
    · rintro ⟨m, hm, h⟩
      by_cases e : m = n
      · subst e; exact .inr h
      · exact .inl ⟨m, by omega, h⟩
theorem holeAt_iff (p : Pc) (r i : Nat) (hi : i < 9) : holeAt p (r * 9 + i) = true ↔ 0 < i ∧ (p r i).known = true ∧ (p r (i - 1)).known = false := by
  by_cases h0 : 0 < i
  · rw [holeTo_ri p r i hi h0]; simp [h0]
  · have : i = 0 := by omega
    subst this
    simp [holeAt]
theorem hole_iff (p : Pc) : p.holeTo 27 = true ↔ ∃ r i, r < 3 ∧ i + 1 < 9 ∧ (p r (i + 1)).known = true ∧ (p r i).known = false := by
  rw [holeTo_iff]
  constructor
  · rintro ⟨m, hm, h⟩
    have hmi : m = m / 9 * 9 + m % 9 := by omega
    rw [hmi, holeAt_iff p _ _ (by omega)] at h
    obtain ⟨h0, h1, h2⟩ := h
    refine ⟨m / 9, m % 9 - 1, by omega, by omega, ?_, h2⟩
    rw [show m % 9 - 1 + 1 = m % 9 by omega]; exact h1
  · rintro ⟨r, i, hr, hi, h1, h2⟩
    exact ⟨r * 9 + (i + 1), by omega, (holeAt_iff p r (i + 1) hi).2 ⟨by omega, h1, by simpa using h2⟩⟩
theorem hole_none {p : Pc} (h : p.holeTo 27 = false) : p.noHole := by
  intro r i hr hi hk
  cases hf : (p r i).known
  · have := (hole_iff p).2 ⟨r, i, hr, hi, hk, hf⟩
    rw [h] at this; cases this
  · rfl

theorem cnt_zero_iff (kn : Nat → Bool) (n : Nat) : cnt kn n = 0 ↔ ∀ i, i < n → kn i = false := by
  induction n with
  | zero => simp [cnt]
  | succ n ih =>
    simp only [cnt]
    constructor
    · intro h i hi
      by_cases e : i = n
      · subst e; cases hk : kn i
        · rfl
        · rw [hk] at h; simp at h
      · exact ih.1 (by omega) i (by omega)
    · intro h
      rw [ih.2 (fun i hi => h i (by omega)), h n (by omega)]; simp
theorem count_zero_iff (p : Pc) (r : Nat) (hr : r < 3) : p.count (r : Int) = 0 ↔ ∀ i, i < 9 → (p r i).known = false := by
  unfold Pc.count
  rw [if_pos (by omega), cnt_zero_iff]; simp

theorem ofTo_iff (p : Pc) (n k : Nat) : ofTo p n k = true ↔ ∀ r, r < k → r < n ∨ p.count (r : Int) = 0 := by
  induction k with
  | zero => simp [ofTo]
  | succ k ih =>
    rw [ofTo, Bool.and_eq_true, ih]
    simp only [Bool.or_eq_true, decide_eq_true_eq]
    constructor
    · rintro ⟨h1, h2⟩ r hr
      by_cases e : r = k
      · subst e; exact h2
      · exact h1 r (by omega)
    · intro h
      exact ⟨fun r hr => h r (by omega), h k (by omega)⟩

theorem cnt_lt {kn kn' : Nat → Bool} (n : Nat) (h : ∀ i, i < n → kn i = true → kn' i = true) (j : Nat) (hj : j < n) (h0 : kn j = false) (h1 : kn' j = true) : cnt kn n < cnt kn' n := by
  induction n with
  | zero => omega
  | succ n ih =>
    simp only [cnt]
    by_cases e : j = n
    · subst e
      have := cnt_mono j (fun i hi hk => h i (by omega) hk)
      rw [h0, h1]; simp; omega
    · have := ih (fun i hi => h i (by omega)) (by omega)
      by_cases hk : kn n = true
      · rw [if_pos hk, if_pos (h n (by omega) hk)]; omega
      · rw [if_neg hk]; omega
theorem dots_lt {p q : Pc} (h : ∀ r i, r < 3 → i < 9 → (p r i).known = true → (q r i).known = true) : p.dots < q.dots ↔ ∃ r i, r < 3 ∧ i < 9 ∧ (p r i).known = false ∧ (q r i).known = true := by
  have m := fun r hr => count_mono h r hr
  constructor
  · intro hlt
    apply Classical.byContradiction
    intro hn
    have he : ∀ r i, r < 3 → i < 9 → (q r i).known = true → (p r i).known = true := by
      intro r i hr hi hk
      cases hp : (p r i).known
      · exact absurd ⟨r, i, hr, hi, hp, hk⟩ hn
      · rfl
    have m' := fun r hr => count_mono he r hr
    unfold Pc.dots at hlt
    have := m' 0 (by omega); have := m' 1 (by omega); have := m' 2 (by omega)
    omega
  · rintro ⟨r, i, hr, hi, h0, h1⟩
    have hs : p.count (r : Int) < q.count (r : Int) := by
      unfold Pc.count
      rw [if_pos (by omega), if_pos (by omega)]
      exact cnt_lt 9 (fun j hj hk => h r j hr hj hk) i hi h0 h1
    have a0 := m 0 (by omega); have a1 := m 1 (by omega); have a2 := m 2 (by omega)
    unfold Pc.dots
    have : r = 0 ∨ r = 1 ∨ r = 2 := by omega
    rcases this with rfl | rfl | rfl <;> omega

theorem clashTo_iff (p q : Pc) (n : Nat) : clashTo p q n = true ↔ ∃ m, m < n ∧ clashSl (p.nth m) (q.nth m) = true := by
  induction n with
  | zero => simp [clashTo]
  | succ n ih =>
    rw [clashTo, Bool.or_eq_true, ih]
    constructor
    · rintro (⟨m, hm, h⟩ | h)
      · exact ⟨m, by omega, h⟩
      · exact ⟨n, by omega, h⟩
    · rintro ⟨m, hm, h⟩
      by_cases e : m = n
      · subst e; exact .inr h
      · exact .inl ⟨m, by omega, h⟩
theorem entEq_iff (a b : Sl) : entEq a b = true ↔ a.cart = b.cart ∧ a.item = b.item ∧ a.value = b.value := by simp [entEq]

theorem rowTo_len (p : Pc) (r n : Nat) : (p.rowTo r n).length = cnt (fun i => (p r i).known) n := by
  induction n with
  | zero => rfl
  | succ n ih =>
    rw [Pc.rowTo, List.length_append, ih, cnt]
    split <;> simp
theorem RelP.lenDots {p : Pc} {D E : List Bs} (h : RelP p D E) (hp : p.ok) : D.length = p.dots := by
  rw [h.eqD hp]
  have e : p.dlTo 27 = p.rowTo 0 9 ++ p.rowTo 1 9 ++ p.rowTo 2 9 := by
    have h2 := dlTo_row p 2 9 (by omega)
    have h1 := dlTo_row p 1 9 (by omega)
    have h0 := dlTo_row p 0 9 (by omega)
    simp only [Nat.reduceMul, Nat.reduceAdd] at h2 h1 h0
    rw [h2, h1, h0]; simp [Pc.dlTo]
  rw [e, List.length_append, List.length_append, rowTo_len, rowTo_len, rowTo_len]
  unfold Pc.dots Pc.count
  rw [if_pos (by omega), if_pos (by omega), if_pos (by omega)]; rfl
end Go.Proofs.YtalaldfgjgpacaaGreatDoor

namespace Go.Proofs.YtalaldfgjgpacaaGreatDoor
set_option linter.unusedVariables false
set_option linter.unusedSimpArgs false
open Go.RowKit
attribute [local go_sem ↓] Go.wp_at_zero Go.wp_at_succ run_load63 run_store63
attribute [local go_sem] blkOf_mk offOf_mk isPt_mk isRow_pc Has_drew HasW_drew rowOf_drew HasW_new Has_alloc rowOf_alloc

/-- Whether the text of a whole state may stand, and what it makes. -/
def wholeOk (n : Nat) (h : Pc) (l : Bs) : Bool := decide (2 ≤ l.length) && (okD (l.take 2) && (readOk (l.drop 2) && (fitsB n h (readP (l.drop 2)) && decide (numTo (l.take 2) 2 ≤ (readP (l.drop 2)).dots))))
def wholeTo (n : Nat) (h : Pc) (l : Bs) : Pc := if wholeOk n h l then readP (l.drop 2) else h
def wholeX (n : Nat) (h : Pc) (x : Ext) (l : Bs) : Ext := if wholeOk n h l then ({ x with had := numTo (l.take 2) 2 } : Ext).compact (readP (l.drop 2)) else x

theorem numTo_two (t : Bs) (h : okD t = true) (ht : t.length = 2) : numTo t 2 < 100 := by
  simp only [okD, Bool.and_eq_true, decide_eq_true_eq] at h
  refine numTo_bd t 2 (fun j hj => ?_)
  exact (List.all_eq_true.1 h.2.2) _ (by rw [List.getD_eq_getElem?_getD, List.getElem?_eq_getElem (by omega)]; exact List.getElem_mem _)

set_option maxRecDepth 100000 in
set_option maxHeartbeats 4000000 in
theorem readWhole_any (b me n : Nat) (h0 : Pc) (x : Ext) (l : Bs) (w : World) (hl : l.length ≤ 1000000) (hn : n ≤ 3) (ht : Tab Tryz.prog w) (h : w.heap[b]? = some (.cells (repArr me n h0 x) 69)) :
    Calls Tryz.prog 159 #[.pointer (some ⟨b, 0, none⟩), .string ⟨l.toArray⟩] w fun e w' => e = .returned (.bool (wholeOk n h0 l)) ∧ RepTo b me n (wholeTo n h0 l) (wholeX n h0 x l) w w' := by
  have HO : Hid (wholeOk n h0 l = (decide (2 ≤ l.length) && (okD (l.take 2) && (readOk (l.drop 2) && (fitsB n h0 (readP (l.drop 2)) && decide (numTo (l.take 2) 2 ≤ (readP (l.drop 2)).dots)))))) := rfl
  have HT : Hid (wholeTo n h0 l = if wholeOk n h0 l then readP (l.drop 2) else h0) := rfl
  have HX : Hid (wholeX n h0 x l = if wholeOk n h0 l then ({ x with had := numTo (l.take 2) 2 } : Ext).compact (readP (l.drop 2)) else x) := rfl
  generalize wholeTo n h0 l = dt at *
  generalize wholeX n h0 x l = dx at *
  generalize wholeOk n h0 l = dk at *
  have H := hid h
  have T := hid ht
  obtain ⟨y, hy⟩ : ∃ y : ByteArray, y = ⟨l.toArray⟩ := ⟨_, rfl⟩
  have hys : y.size = l.length := by rw [hy, bs_size]
  rw [← hy]
  by_cases h2 : l.length < 2
  · have HE : Hid (dk = false) := by show _ = _; rw [HO.out, decide_eq_false (by omega)]; rfl
    have hd : decide ((y.size : Int) < 2) = true := by simp; omega
    have hd' : y.size < 2 := by omega
    have HH := hid hys
    clear h ht hn hys hy
    go_enter Tryz.func159, Tryz.ntmps159
    go_wp2
    go_ret
    rw [HT.out, HX.out, HE.out]; simp only [Bool.false_eq_true, if_false]
    exact ⟨rfl, ⟨H.out, Bx.rfl b w⟩⟩
  · have HX1 : Hid (y.extract 0 2 = ByteArray.mk (l.take 2).toArray) := by rw [hy]; exact (bs_extract l 0 2).trans (by simp)
    have HX2 : Hid (y.extract 2 y.size = ByteArray.mk (l.drop 2).toArray) := by rw [hys, hy]; exact (bs_extract l 2 _).trans (by rw [List.take_of_length_le (by simp)])
    have tl : (l.take 2).length = 2 := by simp; omega
    have HD := hid (fun wx => dread_any (l.take 2) wx (by omega))
    rw [tl] at HD
    have HNB := hid (fun ho => numTo_two (l.take 2) ho tl)
    have HR := hid (fun wx => pread_any (l.drop 2) wx (by simp; omega))
    have HQ := hid (readP_ok (l.drop 2))
    have HO' : Hid (dk = (okD (l.take 2) && (readOk (l.drop 2) && (fitsB n h0 (readP (l.drop 2)) && decide (numTo (l.take 2) 2 ≤ (readP (l.drop 2)).dots))))) := by show _ = _; rw [HO.out, decide_eq_true (by omega), Bool.true_and]
    generalize readP (l.drop 2) = q at *
    generalize readOk (l.drop 2) = ok at *
    generalize okD (l.take 2) = od at *
    generalize numTo (l.take 2) 2 = d at *
    have HF := hid (fun wx hw => checkPiece_any b me n h0 q x wx hn hw)
    have HCE := hid (checkE_fits n h0 q)
    generalize checkE n h0 q = ce at *
    have HS := hid (fun wx => size_any q wx)
    generalize fitsB n h0 q = ft at *
    have hd : decide ((y.size : Int) < 2) = false := by simp; omega
    have hd' : ¬ y.size < 2 := by omega
    have hd2 : 2 ≤ y.size := by omega
    have hd3 : (2 : Int) ≤ (y.size : Int) := by omega
    have HH := hid hys
    clear h ht hn hys hy HO tl h2
    go_enter Tryz.func159, Tryz.ntmps159
    go_wp2_with fail
    rw [HX1.out]
    refine (HD.out _).mono ?_
    rintro e w1 ⟨rfl, hw1⟩
    subst w1
    cases od
    · have HE : Hid (dk = false) := by show _ = _; rw [HO'.out]; rfl
      go_wp2
      go_ret
      rw [HT.out, HX.out, HE.out]; simp only [Bool.false_eq_true, if_false]
      exact ⟨rfl, ⟨H.out, Bx.rfl b w⟩⟩
    · have hdb := HNB.out rfl
      simp only [if_true]
      go_wp2_with fail
      rw [HX2.out]
      refine (HR.out _).mono ?_
      rintro e w1 ⟨rfl, b1⟩
      have G1 := hid (b1.bk' H.out)
      have B1 := hid b1
      clear b1
      go_upto_region 7 with fail
      obtain ⟨w2, hw2⟩ : ∃ w2, w2 = putRowAt (w1.alloc (.cells Tryz.zeroCells65 65)) w1.heap.size 0 (.agg q.arr) := ⟨_, rfl⟩
      have hlt : b < w1.heap.size := (Array.getElem?_eq_some_iff.1 G1.out).1
      have hsz := B1.out.sz
      have G2 : Hid (w2.heap[b]? = some (.cells (repArr me n h0 x) 69)) := by rw [hw2]; exact (put_ne (by omega)).trans (hp_old _ hlt G1.out)
      have K2 : Hid (w2.heap[w1.heap.size]? = some (.cells q.arr 65)) := by rw [hw2]; exact put_new
      have B2 : Hid (Blw w w2) := by rw [hw2]; exact put_blw (B1.out.al _) _ _ (by omega)
      rw [← hw2]
      clear hw2 G1 B1
      generalize w1.heap.size = c at *
      have hrow := rowOf_pc K2.out
      have hhas := Has_pc K2.out
      cases ok
      · have HE : Hid (dk = false) := by show _ = _; rw [HO'.out]; rfl
        go_wp2
        go_ret
        rw [HT.out, HX.out, HE.out]; simp only [Bool.false_eq_true, if_false]
        exact ⟨rfl, ⟨G2.out, B2.out.bx b⟩⟩
      · go_wp2_with fail
        refine (HF.out _ G2.out).mono ?_
        rintro e w3 ⟨rfl, b3⟩
        have G3 := hid (b3.bk' G2.out)
        have K3 := hid (b3.bk' K2.out)
        have B3 := hid (B2.out.tr b3)
        clear G2 K2 B2 b3 hrow hhas
        have hrow := rowOf_pc K3.out
        have hhas := Has_pc K3.out
        by_cases hce : ¬ ce = 0
        · have hft : ft = false := by rw [HCE.out]; exact decide_eq_false hce
          subst hft
          have hcb : (ce == 0) = false := by simpa using hce
          have HE : Hid (dk = false) := by show _ = _; rw [HO'.out]; rfl
          go_wp2
          go_ret
          rw [HT.out, HX.out, HE.out]; simp only [Bool.false_eq_true, if_false]
          exact ⟨rfl, ⟨G3.out, B3.out.bx b⟩⟩
        · have hce' : ce = 0 := Classical.byContradiction hce
          have hft : ft = true := by rw [HCE.out]; exact decide_eq_true hce'
          subst hft
          subst hce'
          go_wp2_with fail
          refine (HS.out _).mono ?_
          rintro e w4 ⟨rfl, b4⟩
          have G4 := hid (b4.bk' G3.out)
          have K4 := hid (b4.bk' K3.out)
          have B4 := hid (B3.out.tr b4)
          clear G3 K3 B3 b4 hrow hhas
          have hrow := rowOf_pc K4.out
          have hhas := Has_pc K4.out
          have hhw := HasW_rep G4.out
          by_cases hle : d ≤ q.dots
          · have HE : Hid (dk = true) := by show _ = _; rw [HO'.out, decide_eq_true hle]; rfl
            have g1 : ¬ ((q.dots : Int) < (d : Int)) := by omega
            have g2 : ¬ (q.dots < d) := by omega
            have HP1 : Hid ((putRowAt w4 b 2 (.agg q.arr)).heap[b]? = some (.cells (repArr me n q x) 69)) := put_rep G4.out
            have HP2 : Hid (Bx b w (putRowAt w4 b 2 (.agg q.arr))) := put_bx (B4.out.bx b) _ _
            have HK := hid (fun wx ht' hw => compact_any b me n q { x with had := d } wx HQ.out hdb ht' hw)
            clear HF HS HR HD
            go_upto_region 14 with fail
            generalize putRowAt w4 b 2 (.agg q.arr) = w5 at *
            have c5 := rep_had HP1.out
            have f5 := blk_frozen HP1.out 137
            have k1 := hid (rep_put_had HP1.out d)
            have k3 := hid (HP2.out.sc 137 (.int .i64 (d : Int)))
            go_wp2_with fail
            refine (HK.out _ (T.out.bx H.out k3.out) k1.out).mono ?_
            rintro e w6 ⟨rfl, r6⟩
            have R6 := hid r6
            clear r6 c5 f5
            go_wp2
            go_ret
            rw [HT.out, HX.out, HE.out]; simp only [if_true]
            exact ⟨rfl, ⟨R6.out.1, Bx.tr k3.out R6.out.2⟩⟩
          · have HE : Hid (dk = false) := by show _ = _; rw [HO'.out, decide_eq_false hle]; rfl
            have g1 : ((q.dots : Int) < (d : Int)) := by omega
            have g2 : (q.dots < d) := by omega
            go_wp2
            go_ret
            rw [HT.out, HX.out, HE.out]; simp only [Bool.false_eq_true, if_false]
            exact ⟨rfl, ⟨G4.out, B4.out.bx b⟩⟩
end Go.Proofs.YtalaldfgjgpacaaGreatDoor

namespace Go.Proofs.YtalaldfgjgpacaaGreatDoor
set_option linter.unusedVariables false
set_option linter.unusedSimpArgs false

/-- One frame's body: whether it may stand, and what it makes. -/
def stepOk (n : Nat) (first : Bool) (h : Pc) : Bs → Bool
  | [] => false
  | c :: t => if c = 68 then deltaOk n h t else (decide (c = 83) && first) && wholeOk n h t
def stepTo (n : Nat) (first : Bool) (h : Pc) : Bs → Pc
  | [] => h
  | c :: t => if c = 68 then deltaTo n h t else if (decide (c = 83) && first) = true then wholeTo n h t else h
def stepX (n : Nat) (first : Bool) (h : Pc) (x : Ext) : Bs → Ext
  | [] => x
  | c :: t => if c = 68 then deltaX n h x t else if (decide (c = 83) && first) = true then wholeX n h x t else x

def frLen (log : Bs) (a : Nat) : Nat := numTo ((log.drop a).take 3) 3
def frBody (log : Bs) (a : Nat) : Bs := (log.drop (a + 3)).take (frLen log a)
/-- What is next in a log: its end (0), what is none (1), a frame (2). -/
def logSt (n : Nat) (log : Bs) (a : Nat) (h : Pc) : Nat :=
  if log.length < a + 3 then 0 else if okD ((log.drop a).take 3) = true then (if log.length < a + 3 + frLen log a then 0 else if stepOk n (a == 0) h (frBody log a) = true then 2 else 1) else 1

structure LR where
  ok : Bool
  a : Nat
  h : Pc
  x : Ext
def logRun (n : Nat) (log : Bs) : Nat → Nat → Pc → Ext → LR
  | 0, a, h, x => ⟨true, a, h, x⟩
  | f + 1, a, h, x => if logSt n log a h = 0 then ⟨true, a, h, x⟩ else if logSt n log a h = 1 then ⟨false, a, h, x⟩ else
      logRun n log f (a + 3 + frLen log a) (stepTo n (a == 0) h (frBody log a)) (stepX n (a == 0) h x (frBody log a))

theorem dig_all {d : Bs} (h : okD d = true) (j : Nat) (hj : j < d.length) : isDigB (d.getD j 0) = true := by
  simp only [okD, Bool.and_eq_true, decide_eq_true_eq] at h
  exact (List.all_eq_true.1 h.2.2) _ (by rw [List.getD_eq_getElem?_getD, List.getElem?_eq_getElem hj]; exact List.getElem_mem _)
theorem isDigB_iff (c : UInt8) : isDigB c = true ↔ 48 ≤ c.toNat ∧ c.toNat ≤ 57 := by
  simp only [isDigB, Bool.and_eq_true, decide_eq_true_eq, UInt8.le_iff_toNat_le]
  exact Iff.rfl

/-- Digits write the number that they tell. -/
theorem lastD_num2 (d : Bs) (hd : d.length = 2) (h : okD d = true) : lastD (numTo d 2) 2 = d := by
  match d, hd with
  | [c0, c1], _ =>
    have h0 := (isDigB_iff _).1 (dig_all h 0 (by simp))
    have h1 := (isDigB_iff _).1 (dig_all h 1 (by simp))
    simp only [List.getD_cons_zero, List.getD_cons_succ] at h0 h1
    simp only [lastD, numTo, List.getD_cons_zero, List.getD_cons_succ, Nat.pow_zero, Nat.div_one, Nat.pow_one]
    rw [show ((0 * 10 + (c0.toNat - 48)) * 10 + (c1.toNat - 48)) / 10 % 10 = c0.toNat - 48 by omega, show ((0 * 10 + (c0.toNat - 48)) * 10 + (c1.toNat - 48)) % 10 = c1.toNat - 48 by omega, ← dig_of h0.1 (by omega), ← dig_of h1.1 (by omega)]
theorem lastD_num3 (d : Bs) (hd : d.length = 3) (h : okD d = true) : lastD (numTo d 3) 3 = d := by
  match d, hd with
  | [c0, c1, c2], _ =>
    have h0 := (isDigB_iff _).1 (dig_all h 0 (by simp))
    have h1 := (isDigB_iff _).1 (dig_all h 1 (by simp))
    have h2 := (isDigB_iff _).1 (dig_all h 2 (by simp))
    simp only [List.getD_cons_zero, List.getD_cons_succ] at h0 h1 h2
    simp only [lastD, numTo, List.getD_cons_zero, List.getD_cons_succ, Nat.pow_zero, Nat.div_one, Nat.pow_one]
    rw [show ((((0 * 10 + (c0.toNat - 48)) * 10 + (c1.toNat - 48)) * 10 + (c2.toNat - 48)) / 10 ^ 2) % 10 = c0.toNat - 48 by omega, show (((0 * 10 + (c0.toNat - 48)) * 10 + (c1.toNat - 48)) * 10 + (c2.toNat - 48)) / 10 % 10 = c1.toNat - 48 by omega,
      show (((0 * 10 + (c0.toNat - 48)) * 10 + (c1.toNat - 48)) * 10 + (c2.toNat - 48)) % 10 = c2.toNat - 48 by omega, ← dig_of h0.1 (by omega), ← dig_of h1.1 (by omega), ← dig_of h2.1 (by omega)]

theorem join_none (q : Pc) : Pc.empty.join q = q := by
  funext r i
  simp [Pc.join, joinSl, Pc.empty, Sl.zero]
theorem readP_fine {l : Bs} (h : readOk l = true) : (readP l).fine ∧ (readP l).text = l := by
  obtain ⟨D, E, g⟩ := read_good h
  exact (good_readP g).2

/-- How far a log has been read. -/
structure LInv (log : Bs) (a : Nat) (h : Pc) (x : Ext) : Prop where
  le : a ≤ log.length
  fine : h.fine
  hole : h.noHole
  log : x.log = log.take a
  had : x.had ≤ h.dots
  z : a = 0 → h = Pc.empty ∧ x = Ext.zero
  bare : x.late = [] ∧ x.ack = fun _ => 0

theorem LInv.start (log : Bs) : LInv log 0 Pc.empty Ext.zero := ⟨Nat.zero_le _, fine_empty, noHole_empty, by simp [Ext.zero], Nat.zero_le _, fun _ => ⟨rfl, rfl⟩, ⟨rfl, rfl⟩⟩

theorem fits_hole {n : Nat} {h q : Pc} (hf : fitsB n h q = true) : (h.join q).noHole := by
  simp only [fitsB, Bool.and_eq_true, Bool.not_eq_true'] at hf
  exact hole_none hf.2.2

theorem logSt_two {n : Nat} {log : Bs} {a : Nat} {h : Pc} (hs : logSt n log a h ≠ 0) (hs1 : logSt n log a h ≠ 1) : a + 3 + frLen log a ≤ log.length ∧ okD ((log.drop a).take 3) = true ∧ stepOk n (a == 0) h (frBody log a) = true := by
  unfold logSt at hs hs1
  split at hs
  · exact absurd rfl hs
  · rename_i h1
    rw [if_neg h1] at hs1
    split at hs
    · rename_i h2
      rw [if_pos h2] at hs1
      split at hs
      · exact absurd rfl hs
      · rename_i h3
        rw [if_neg h3] at hs1
        split at hs
        · rename_i h4; exact ⟨by omega, h2, h4⟩
        · rename_i h4; rw [if_neg h4] at hs1; exact absurd rfl hs1
    · rename_i h2; rw [if_neg h2] at hs1; exact absurd rfl hs1

theorem LInv.next {n : Nat} {log : Bs} {a : Nat} {h : Pc} {x : Ext} (I : LInv log a h x) (hs : logSt n log a h ≠ 0) (hs1 : logSt n log a h ≠ 1) :
    LInv log (a + 3 + frLen log a) (stepTo n (a == 0) h (frBody log a)) (stepX n (a == 0) h x (frBody log a)) := by
  obtain ⟨hl, hd, ho⟩ := logSt_two hs hs1
  have hdl : ((log.drop a).take 3).length = 3 := by simp; omega
  have hnum := lastD_num3 _ hdl hd
  have htk : log.take (a + 3 + frLen log a) = log.take a ++ ((log.drop a).take 3 ++ frBody log a) := by
    rw [List.take_add, List.take_add, List.append_assoc]; rfl
  have hbl : (frBody log a).length = frLen log a := by unfold frBody; simp; omega
  have hne : a + 3 + frLen log a ≠ 0 := by omega
  have hfr : ∀ b : Bs, b = frBody log a → frameL b = (log.drop a).take 3 ++ frBody log a := by
    rintro b rfl
    unfold frameL
    rw [hbl, ← hnum]
    show lastD (numTo _ 3) 3 ++ _ = lastD (numTo _ 3) 3 ++ _
    rw [hnum]
  generalize hb : frBody log a = body at *
  cases body with
  | nil => simp [stepOk] at ho
  | cons c t =>
    by_cases hc : c = 68
    · subst hc
      simp only [stepOk, if_true] at ho
      have ho' := ho
      simp only [deltaOk, Bool.and_eq_true, decide_eq_true_eq] at ho'
      obtain ⟨o1, o2, o3⟩ := ho'
      obtain ⟨f1, f2⟩ := readP_fine o1
      simp only [stepTo, stepX, if_true, deltaTo, deltaX, ho]
      refine ⟨hl, join_fine I.fine f1, fits_hole o2, ?_, ?_, fun e => absurd e hne, I.bare⟩
      · show x.log ++ frameL ([68] ++ (readP t).text) = _
        rw [f2, htk, I.log, hfr ([68] ++ t) rfl]
      · show x.had + 1 ≤ _
        have := I.had; omega
    · simp only [stepOk, if_neg hc, Bool.and_eq_true] at ho
      obtain ⟨⟨o0, of⟩, ow⟩ := ho
      have hc83 : c = 83 := by simpa using o0
      subst hc83
      have ha : a = 0 := by simpa using of
      obtain ⟨rfl, rfl⟩ := I.z ha
      have ow' := ow
      simp only [wholeOk, Bool.and_eq_true, decide_eq_true_eq] at ow'
      obtain ⟨w0, w1, w2, w3, w4⟩ := ow'
      obtain ⟨f1, f2⟩ := readP_fine w2
      have e2 := lastD_num2 (t.take 2) (by simp; omega) w1
      have hfh := fits_hole w3
      rw [join_none] at hfh
      have e3 : stepTo n (a == 0) Pc.empty (83 :: t) = readP (t.drop 2) := by simp [stepTo, of, wholeTo, ow]
      have e4 : stepX n (a == 0) Pc.empty Ext.zero (83 :: t) = ({ Ext.zero with had := numTo (t.take 2) 2 } : Ext).compact (readP (t.drop 2)) := by simp [stepX, of, wholeX, ow]
      rw [e3, e4]
      clear e3 e4 ow o0
      have hd1 : (({ Ext.zero with had := numTo (t.take 2) 2 } : Ext).compact (readP (t.drop 2))).had = numTo (t.take 2) 2 := rfl
      refine ⟨hl, f1, hfh, ?_, by rw [hd1]; exact w4, fun e => absurd e hne, ⟨rfl, rfl⟩⟩
      show frameL ([83] ++ lastD (numTo (t.take 2) 2) 2 ++ (readP (t.drop 2)).text) = _
      rw [f2, e2, htk, hfr _ (by simp)]
      subst ha; simp

theorem logRun_inv (n : Nat) (log : Bs) (f : Nat) : ∀ a h x, LInv log a h x → (logRun n log f a h x).ok = true → LInv log (logRun n log f a h x).a (logRun n log f a h x).h (logRun n log f a h x).x := by
  induction f with
  | zero => intro a h x I _; exact I
  | succ f ih =>
    intro a h x I ho
    rw [logRun] at ho ⊢
    by_cases h0 : logSt n log a h = 0
    · rw [if_pos h0] at ho ⊢; exact I
    · rw [if_neg h0] at ho ⊢
      by_cases h1 : logSt n log a h = 1
      · rw [if_pos h1] at ho; cases ho
      · rw [if_neg h1] at ho ⊢
        exact ih _ _ _ (I.next h0 h1) ho
end Go.Proofs.YtalaldfgjgpacaaGreatDoor
