import Derived.Test.YtalaldfgjgpacaaGreatDoorGA
namespace Go.Proofs.YtalaldfgjgpacaaGreatDoor
set_option linter.unusedVariables false
set_option linter.unusedSimpArgs false
open Go.RowKit
attribute [local go_sem ↓] Go.wp_at_zero Go.wp_at_succ run_load63 run_store63
attribute [local go_sem] blkOf_mk offOf_mk isPt_mk isRow_pc Has_drew HasW_drew rowOf_drew

def entEq (a b : Sl) : Bool := a.cart == b.cart && (a.item == b.item && a.value == b.value)
def clashSl (a b : Sl) : Bool := a.filled && b.filled && !entEq a b
def clashTo (p q : Pc) : Nat → Bool
  | 0 => false
  | n + 1 => clashTo p q n || clashSl (p.nth n) (q.nth n)
theorem clashTo_mono (p q : Pc) (k m : Nat) (h : k ≤ m) (hk : clashTo p q k = true) : clashTo p q m = true := by
  induction m with
  | zero => have : k = 0 := by omega
            subst this; exact hk
  | succ m ih =>
    by_cases e : k = m + 1
    · subst e; exact hk
    · rw [clashTo, ih (by omega)]; rfl

theorem neq91 (c i v c' i' v' : Int) (wx : World) : (binOp .neq 59 (.agg #[.int .i64 c, .int .i64 i, .int .i64 v]) (.agg #[.int .i64 c', .int .i64 i', .int .i64 v'])).run Tryz.prog wx = .ok (.bool (!(c == c' && (i == i' && v == v')))) wx := by
  by_cases h2 : c = c' <;> by_cases h3 : i = i' <;> by_cases h4 : v = v' <;> simp [go_sem, h2, h3, h4]

/-- Two pieces in boxes. -/
structure Two2 (p q : Pc) (w wr : World) : Prop where
  a : wr.heap[w.heap.size]? = some (.cells p.arr 65)
  b : wr.heap[w.heap.size + 1]? = some (.cells q.arr 65)
  bl : Blw w wr
theorem Two2.start (p q : Pc) (w : World) : Two2 p q w ((w.alloc (.cells p.arr 65)).alloc (.cells q.arr 65)) :=
  ⟨hp_old _ (by simp) (hp_new w _), hp_new2 w _ _, ((Blw.rfl _).al _).al _⟩
theorem Two2.on {p q : Pc} {w wr w' : World} (h : Two2 p q w wr) (hb : Blw wr w') : Two2 p q w w' := ⟨hb.bk' h.a, hb.bk' h.b, h.bl.tr hb⟩

set_option maxRecDepth 100000 in
set_option maxHeartbeats 2000000 in
theorem clash_any (p q : Pc) (w : World) :
    Calls Tryz.prog 76 #[.agg p.arr, .agg q.arr] w fun e w' => e = .returned (.bool (clashTo p q 27)) ∧ Blw w w' := by
  obtain ⟨t, ht⟩ : ∃ t, t = clashTo p q 27 := ⟨_, rfl⟩
  rw [← ht]
  have HT := hid ht
  have HM := hid (clashTo_mono p q)
  clear ht
  go_enter Tryz.func76, Tryz.ntmps76
  go_wp2
  go_loopw [5] (fun r wr => ∃ k : Nat, k ≤ 3 ∧ r = .int .i64 k ∧ clashTo p q (k * 9) = false ∧ Two2 p q w wr) (fun r _ => 3 - (intOf r).toNat)
  case atStart => exact ⟨0, by omega, rfl, rfl, Two2.start p q w⟩
  case round =>
    obtain ⟨k, hk, rfl, hd, hT2⟩ := hrel
    have HD := hid hd
    have T2 := hid hT2
    clear hd hT2
    by_cases hlt : k < 3
    · have hd3 : decide ((k : Int) < 3) = true := by simp; omega
      go_wp2
      go_loopw [6] (fun i wr => ∃ m : Nat, m ≤ 9 ∧ i = .int .i64 m ∧ clashTo p q (k * 9 + m) = false ∧ Two2 p q w wr) (fun i _ => 9 - (intOf i).toNat)
      case atStart => exact ⟨0, by omega, rfl, HD.out, T2.out⟩
      case round =>
        clear T2
        obtain ⟨m, hm, rfl, hdm, hT2⟩ := hrel
        have HDm := hid hdm
        have T2 := hid hT2
        clear hdm
        by_cases hlm : m < 9
        · obtain ⟨p0, p1, p2, p3, p4⟩ := cells5 hT2.a k m hlt hlm
          obtain ⟨q0, q1, q2, q3, q4⟩ := cells5 hT2.b k m hlt hlm
          have x0 := cell_al (w := wr) (o := k * 45 + m * 5) (.cells (p k m).cells.toArray 61) (lt_of_blk hT2.b)
          have x1 := cell_al (w := wr) (o := k * 45 + m * 5 + 1) (.cells (p k m).cells.toArray 61) (lt_of_blk hT2.b)
          have x2 := cell_al (w := wr) (o := k * 45 + m * 5 + 2) (.cells (p k m).cells.toArray 61) (lt_of_blk hT2.b)
          have x3 := cell_al (w := wr) (o := k * 45 + m * 5 + 3) (.cells (p k m).cells.toArray 61) (lt_of_blk hT2.b)
          have x4 := cell_al (w := wr) (o := k * 45 + m * 5 + 4) (.cells (p k m).cells.toArray 61) (lt_of_blk hT2.b)
          rw [q0] at x0; rw [q1] at x1; rw [q2] at x2; rw [q3] at x3; rw [q4] at x4
          have HS : Hid (clashTo p q (k * 9 + (m + 1)) = (clashTo p q (k * 9 + m) || clashSl (p k m) (q k m))) := by
            show clashTo p q (k * 9 + m + 1) = _
            rw [clashTo, Pc.nth_ri _ _ _ hlm, Pc.nth_ri _ _ _ hlm]
          have HC : Hid (clashSl (p k m) (q k m) = ((p k m).filled && (q k m).filled && !((p k m).cart == (q k m).cart && ((p k m).item == (q k m).item && (p k m).value == (q k m).value)))) := rfl
          have hk0 : (0 : Int) ≤ (k : Int) := Int.natCast_nonneg _
          have hk3 : (k : Int) < 3 := by omega
          have hm0 : (0 : Int) ≤ (m : Int) := Int.natCast_nonneg _
          have hm9 : (m : Int) < 9 := by omega
          have hnq := neq91
          clear hT2
          unfold Sl.cells at x0 x1 x2 x3 x4
          generalize p k m = a at *
          generalize q k m = b at *
          obtain ⟨ak, af, ac, ai, av⟩ := a
          obtain ⟨bk, bf, bc, bi, bv⟩ := b
          simp only [] at *
          cases af
          · have HF : Hid (clashTo p q (k * 9 + (m + 1)) = false) := by show _ = _; rw [HS.out, HDm.out, HC.out]; rfl
            go_wp2
            go_roundw
            case rel => exact ⟨m + 1, by omega, by go_num, HF.out, T2.out.on (((Blw.rfl _).al _).al _)⟩
            case measure => simp [intOf]; omega
          · cases bf
            · have HF : Hid (clashTo p q (k * 9 + (m + 1)) = false) := by show _ = _; rw [HS.out, HDm.out, HC.out]; rfl
              go_wp2
              go_roundw
              case rel => exact ⟨m + 1, by omega, by go_num, HF.out, T2.out.on (((Blw.rfl _).al _).al _)⟩
              case measure => simp [intOf]; omega
            · obtain ⟨ee, hee⟩ : ∃ ee, ee = (ac == bc && (ai == bi && av == bv)) := ⟨_, rfl⟩
              have hn2 := hnq ac ai av bc bi bv
              rw [← hee] at hn2 HC
              clear hnq hee
              cases ee
              · have HF : Hid (t = true) := by
                  show t = true
                  rw [HT.out]; exact HM.out (k * 9 + (m + 1)) 27 (by omega) (by rw [HS.out, HC.out]; simp)
                go_wp2
                go_ret
                exact ⟨by rw [HF.out]; rfl, T2.out.bl.tr (((Blw.rfl _).al _).al _)⟩
              · have HF : Hid (clashTo p q (k * 9 + (m + 1)) = false) := by show _ = _; rw [HS.out, HDm.out, HC.out]; rfl
                go_wp2
                go_roundw
                case rel => exact ⟨m + 1, by omega, by go_num, HF.out, T2.out.on (((Blw.rfl _).al _).al _)⟩
                case measure => simp [intOf]; omega
        · have hm9 : m = 9 := by omega
          subst hm9
          clear hT2
          go_wp2
          go_roundw
          case rel => exact ⟨k + 1, by omega, by go_num, by rw [show (k + 1) * 9 = k * 9 + 9 by omega]; exact HDm.out, T2.out⟩
          case measure => simp [intOf]; omega
    · have hk3 : k = 3 := by omega
      subst hk3
      have HF : Hid (t = false) := by show t = false; rw [HT.out]; exact HD.out
      go_wp2
      go_ret
      exact ⟨by rw [HF.out]; rfl, T2.out.bl⟩

/-- Dots of the cluster's replicas alone. -/
def ofTo (p : Pc) (n : Nat) : Nat → Bool
  | 0 => true
  | k + 1 => ofTo p n k && (decide (k < n) || decide (p.count (k : Int) = 0))

set_option maxRecDepth 100000 in
set_option maxHeartbeats 1000000 in
theorem isOfCluster_any (b me n : Nat) (h0 p : Pc) (x : Ext) (w : World) (hn : n ≤ 3) (h : w.heap[b]? = some (.cells (repArr me n h0 x) 69)) :
    Calls Tryz.prog 73 #[.pointer (some ⟨b, 0, none⟩), .agg p.arr] w fun e w' => e = .returned (.bool (ofTo p n 3)) ∧ Blw w w' := by
  obtain ⟨t, ht⟩ : ∃ t, t = ofTo p n 3 := ⟨_, rfl⟩
  rw [← ht]
  have HT := hid ht
  have HB := hid (HasPc.start p w)
  have c1 := rep_n (HB.out.2.2.bk' h)
  clear ht h
  have base : ∀ k, k ≤ n → ofTo p n k = true := by
    intro k
    induction k with
    | zero => intro _; rfl
    | succ k ih => intro hk; rw [ofTo, ih (by omega)]; simp; left; omega
  have HBs := hid (base n (Nat.le_refl _))
  have mono : ∀ k m, k ≤ m → ofTo p n k = false → ofTo p n m = false := by
    intro k m hkm hk
    induction m with
    | zero => have : k = 0 := by omega
              subst this; exact hk
    | succ m ih =>
      by_cases e : k = m + 1
      · subst e; exact hk
      · rw [ofTo, ih (by omega)]; rfl
  have HMo := hid mono
  clear base mono
  go_enter Tryz.func73, Tryz.ntmps73
  go_wp2
  go_loopw [5] (fun r wr => ∃ k : Nat, n ≤ k ∧ k ≤ 3 ∧ r = .int .i64 k ∧ ofTo p n k = true ∧ HasPc p w wr) (fun r _ => 3 - (intOf r).toNat)
  case atStart => exact ⟨n, by omega, hn, rfl, HBs.out, HB.out⟩
  case round =>
    obtain ⟨k, hnk, hk, rfl, hd, hJR⟩ := hrel
    have HD := hid hd
    clear hd
    by_cases hlt : k < 3
    · have H := hid hJR
      have hrow := rowOf_pc hJR.1
      have hhas := Has_pc hJR.1
      have hc := Pc.count_le p (k : Int)
      have HS : Hid (ofTo p n (k + 1) = (ofTo p n k && (decide (k < n) || decide (p.count (k : Int) = 0)))) := rfl
      clear hJR
      go_wp2_with fail
      refine (count_any p (k : Int) _).mono ?_
      rintro e w2 ⟨rfl, b2⟩
      have H2 := hid (H.out.on b2)
      generalize p.count (k : Int) = cc at *
      clear b2 hrow hhas
      by_cases hcc : 0 < cc
      · have HF : Hid (t = false) := by
          show t = false
          rw [HT.out]; exact HMo.out (k + 1) 3 (by omega) (by rw [HS.out, HD.out]; simp; omega)
        go_wp2
        go_ret
        exact ⟨by rw [HF.out]; rfl, H2.out.2.2⟩
      · have hc0 : cc = 0 := by omega
        subst hc0
        have HF : Hid (ofTo p n (k + 1) = true) := by show _ = _; rw [HS.out, HD.out]; simp
        go_wp2
        go_roundw
        case rel => exact ⟨k + 1, by omega, by omega, by go_num, HF.out, H2.out⟩
        case measure => simp [intOf]; omega
    · have hk3 : k = 3 := by omega
      subst hk3
      have HF : Hid (t = true) := by show t = true; rw [HT.out]; exact HD.out
      have B := hid hJR.2.2
      clear hJR
      go_wp2
      go_ret
      exact ⟨by rw [HF.out]; rfl, B.out⟩
end Go.Proofs.YtalaldfgjgpacaaGreatDoor
