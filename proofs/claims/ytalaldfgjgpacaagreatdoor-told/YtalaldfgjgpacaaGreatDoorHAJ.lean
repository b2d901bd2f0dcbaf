import Derived.Test.YtalaldfgjgpacaaGreatDoorHAE
import Derived.Test.YtalaldfgjgpacaaGreatDoorHAI
import Derived.Deep.RegionWith
import Derived.Deep.RegionHeld3
import Derived.Deep.DeepCutAuto
namespace Go.Proofs.YtalaldfgjgpacaaGreatDoor
set_option linter.unusedVariables false
set_option linter.unusedSimpArgs false
open Go.RowKit
def Sl.inCart (s : Sl) (c : Int) : Bool := s.filled && s.cart == c
theorem cartTo_at (p : Pc) (hp : p.ok) (c : Int) (k : Nat) : ∀ r i, r < 3 → i < 9 → p.cartTo c k r i = if (p r i).filled && (decide ((p r i).cart = c) && decide ((p r i).item < (k : Int))) then Sl.dot else Sl.zero := by
  induction k with
  | zero =>
    intro r i hr hi
    by_cases hf : (p r i).filled = true
    · have := (hp.good hr hi hf).i0
      rw [if_neg (by simp; intro _ _; omega)]; rfl
    · rw [if_neg (by simp [hf])]; rfl
  | succ k ih =>
    intro r i hr hi
    show joinSl (p.cartTo c k r i) (p.dotsOf c (k : Int) r i) = _
    rw [ih r i hr hi]
    unfold Pc.dotsOf
    by_cases h1 : ((p r i).filled && (decide ((p r i).cart = c) && decide ((p r i).item < (k : Int)))) = true
    · rw [if_pos h1]
      simp only [Bool.and_eq_true, decide_eq_true_eq] at h1
      have h2 : ((p r i).isOf c (k : Int)) = false := by simp [Sl.isOf]; intro _ _; omega
      have h3 : ((p r i).filled && (decide ((p r i).cart = c) && decide ((p r i).item < ((k + 1 : Nat) : Int)))) = true := by simp [h1.1, h1.2.1]; omega
      rw [h2, if_pos h3]; rfl
    · rw [if_neg h1]
      by_cases h2 : (p r i).isOf c (k : Int) = true
      · obtain ⟨f1, f2, f3⟩ := isOf_eq h2
        have h3 : ((p r i).filled && (decide ((p r i).cart = c) && decide ((p r i).item < ((k + 1 : Nat) : Int)))) = true := by simp [f1, f2, f3]; omega
        rw [if_pos h2, if_pos h3]; rfl
      · have h3 : ¬ ((p r i).filled && (decide ((p r i).cart = c) && decide ((p r i).item < ((k + 1 : Nat) : Int)))) = true := by
          simp only [Bool.and_eq_true, decide_eq_true_eq] at h1 ⊢
          simp only [Sl.isOf, Bool.and_eq_true, beq_iff_eq] at h2
          rintro ⟨f1, f2, f3⟩
          by_cases e : (p r i).item = (k : Int)
          · exact h2 ⟨f1, f2, e⟩
          · exact h1 ⟨f1, f2, by omega⟩
        rw [if_neg h2, if_neg h3]; rfl
theorem cart4_at (p : Pc) (hp : p.ok) (c : Int) : ∀ r i, r < 3 → i < 9 → p.cartTo c 4 r i = if (p r i).inCart c then Sl.dot else Sl.zero := by
  intro r i hr hi
  rw [cartTo_at p hp c 4 r i hr hi]
  have : ((p r i).filled && (decide ((p r i).cart = c) && decide ((p r i).item < ((4 : Nat) : Int)))) = (p r i).inCart c := by
    unfold Sl.inCart
    cases hf : (p r i).filled with
    | false => rfl
    | true =>
      have := (hp.good hr hi hf).i1
      have h4 : decide ((p r i).item < ((4 : Nat) : Int)) = true := by simp; omega
      rw [h4]; rw [Bool.eq_iff_iff]; simp
  rw [this]
/-- One step of a script. -/
structure OpR where
  kind : Int
  r : Int
  t : Int
  a : Int
  b : Int
  c : Int
  s : ByteArray
def OpR.cells (o : OpR) : List Value := [.int .i64 o.kind, .int .i64 o.r, .int .i64 o.t, .int .i64 o.a, .int .i64 o.b, .int .i64 o.c, .string o.s]
/-- The steps lie in block sb from off on. -/
def Lies (ops : Nat → OpR) (len sb off : Nat) (w : World) : Prop :=
  ∀ i, i < len → w.cell? ⟨sb, off + i * 7, none⟩ = some (.int .i64 (ops i).kind) ∧ w.cell? ⟨sb, off + i * 7 + 1, none⟩ = some (.int .i64 (ops i).r) ∧ w.cell? ⟨sb, off + i * 7 + 2, none⟩ = some (.int .i64 (ops i).t) ∧
    w.cell? ⟨sb, off + i * 7 + 3, none⟩ = some (.int .i64 (ops i).a) ∧ w.cell? ⟨sb, off + i * 7 + 4, none⟩ = some (.int .i64 (ops i).b) ∧ w.cell? ⟨sb, off + i * 7 + 5, none⟩ = some (.int .i64 (ops i).c) ∧ w.cell? ⟨sb, off + i * 7 + 6, none⟩ = some (.string (ops i).s)
theorem Lies.on {ops : Nat → OpR} {len sb off : Nat} {w w' : World} (h : Lies ops len sb off w) (hb : w'.heap[sb]? = w.heap[sb]?) : Lies ops len sb off w' := by
  intro i hi
  have e : ∀ o, w'.cell? ⟨sb, o, none⟩ = w.cell? ⟨sb, o, none⟩ := fun o => World.cell?_of_block (w := w) (a := ⟨sb, o, none⟩) hb
  simp only [e]
  exact h i hi
def sizeTo (ops : Nat → OpR) (len : Nat) : Nat → Nat
  | 0 => len
  | i + 1 => sizeTo ops len i + (ops i).s.size
set_option maxRecDepth 100000 in
set_option maxHeartbeats 400000 in
theorem small_any (ops : Nat → OpR) (len cap sb off : Nat) (w : World) (hl : len ≤ maxLen) (hs : ∀ i, i < len → (ops i).s.size ≤ 140737488355328) (h : Lies ops len sb off w) :
    Calls Tryz.prog 14 #[.slice (some ⟨sb, off, none⟩) len cap] w fun e w' => (e = .returned (.bool true) ∧ len ≤ 1048576 ∨ e = .returned (.bool false)) ∧ w' = w := by
  unfold maxLen at hl
  by_cases hbig : 1048576 < len
  · clear hs h
    go_enter Tryz.func14, Tryz.ntmps14
    go_wp2
    go_ret
    exact ⟨.inr rfl, rfl⟩
  · have HS := hid hs
    have HL := hid h
    clear hs h
    go_enter Tryz.func14, Tryz.ntmps14
    go_wp2
    go_loop [3, 4] (fun n i => ∃ k m : Nat, k ≤ len ∧ i = .int .i64 k ∧ n = .int .i64 m ∧ m ≤ 1048576) (fun _ i => len - (intOf i).toNat)
    case atStart => exact ⟨0, len, by omega, rfl, rfl, by omega⟩
    case round =>
      obtain ⟨k, m, hk, rfl, rfl, hm⟩ := hrel
      by_cases hlt : k < len
      · obtain ⟨-, -, -, -, -, -, c6⟩ := HL.out k hlt
        have hsz := HS.out k hlt
        by_cases hgt : 1048576 < m + (ops k).s.size
        · go_wp2
          go_ret
          exact ⟨.inr rfl, rfl⟩
        · go_wp2
          go_round
          case rel => exact ⟨k + 1, m + (ops k).s.size, by omega, by go_num, by go_num, by omega⟩
          case measure => simp [intOf]; omega
      · go_wp2
        go_ret
        exact ⟨.inl ⟨rfl, by omega⟩, rfl⟩
theorem small_nil (w : World) : Calls Tryz.prog 14 #[.slice none 0 0] w fun e w' => e = .returned (.bool true) ∧ w' = w := by
  go_enter Tryz.func14, Tryz.ntmps14
  go_wp2
  refine wp_loop_once ?_
  go_wp2
  go_ret
  exact ⟨rfl, rfl⟩
/-- Which of n things a raw number speaks of. -/
def pickN (c : Int) (n : Int) : Int := if c < 0 then (-(c + 1)) % n else c % n
theorem pickN_bd (c n : Int) (hn : 0 < n) : 0 ≤ pickN c n ∧ pickN c n < n := by
  unfold pickN
  split
  · exact ⟨Int.emod_nonneg _ (by omega), Int.emod_lt_of_pos _ hn⟩
  · exact ⟨Int.emod_nonneg _ (by omega), Int.emod_lt_of_pos _ hn⟩
set_option maxHeartbeats 400000 in
theorem pick_any (c n : Int) (w : World) (h0 : -9223372036854775808 ≤ c) (h1 : c ≤ 9223372036854775807) (hn : 0 < n) (hn2 : n ≤ 1000000000) :
    Calls Tryz.prog 21 #[.int .i64 c, .int .i64 n] w fun e w' => e = .returned (.int .i64 (pickN c n)) ∧ w' = w := by
  obtain ⟨r, hr⟩ : ∃ r, r = pickN c n := ⟨_, rfl⟩
  rw [← hr]
  have HR := hid hr
  clear hr
  by_cases hc : c < 0
  · go_enter Tryz.func21, Tryz.ntmps21
    go_wp2
    go_ret
    refine ⟨?_, rfl⟩
    rw [HR.out, pickN, if_pos hc, ← Int.tmod_eq_emod_of_nonneg (by omega), Int.neg_tmod]
    rfl
  · go_enter Tryz.func21, Tryz.ntmps21
    go_wp2
    go_ret
    refine ⟨?_, rfl⟩
    rw [HR.out, pickN, if_neg (by omega)]
    first | rfl | (rw [← Int.tmod_eq_emod_of_nonneg (by omega)]; rfl)
def opArr (kd r t a b c : Int) (s : ByteArray) : Array Value := #[.int .i64 kd, .int .i64 r, .int .i64 t, .int .i64 a, .int .i64 b, .int .i64 c, .string s]
end Go.Proofs.YtalaldfgjgpacaaGreatDoor

namespace Go.Proofs.YtalaldfgjgpacaaGreatDoor
set_option linter.unusedVariables false
set_option linter.unusedSimpArgs false
open Go.RowKit
attribute [local go_sem ↓] Go.wp_at_zero Go.wp_at_succ run_load63 run_store63
attribute [local go_sem] blkOf_mk offOf_mk isPt_mk isRow_pc Has_drew HasW_drew rowOf_drew

def Pc.dotsUpTo (p : Pc) : Nat → Nat
  | 0 => 0
  | k + 1 => p.dotsUpTo k + p.count (k : Int)
theorem dotsUpTo_le (p : Pc) (k : Nat) : p.dotsUpTo k ≤ 9 * k := by
  induction k with
  | zero => simp [Pc.dotsUpTo]
  | succ k ih => rw [Pc.dotsUpTo]; have := Pc.count_le p (k : Int); omega
theorem dotsUpTo_3 (p : Pc) : p.dotsUpTo 3 = p.dots := by simp [Pc.dotsUpTo, Pc.dots]

set_option maxRecDepth 100000 in
set_option maxHeartbeats 1000000 in
theorem size_any (p : Pc) (w : World) :
    Calls Tryz.prog 77 #[.agg p.arr] w fun e w' => e = .returned (.int .i64 (p.dots : Int)) ∧ Blw w w' := by
  have H3 := hid (dotsUpTo_3 p)
  go_enter Tryz.func77, Tryz.ntmps77
  go_wp2
  go_loopw [3, 4] (fun s r wr => ∃ k : Nat, k ≤ 3 ∧ r = .int .i64 k ∧ s = .int .i64 ((p.dotsUpTo k : Nat) : Int) ∧ HasPc p w wr) (fun _ r _ => 3 - (intOf r).toNat)
  case atStart => exact ⟨0, by omega, rfl, rfl, HasPc.start p w⟩
  case round =>
    obtain ⟨k, hk, rfl, rfl, hJR⟩ := hrel
    by_cases hlt : k < 3
    · have H := hid hJR
      have hrow := rowOf_pc hJR.1
      have hhas := Has_pc hJR.1
      have hle := dotsUpTo_le p k
      have hc := Pc.count_le p (k : Int)
      have HS : Hid (p.dotsUpTo (k + 1) = p.dotsUpTo k + p.count (k : Int)) := rfl
      generalize p.dotsUpTo k = q at *
      clear hJR
      go_wp2_with fail
      refine (count_any p (k : Int) _).mono ?_
      rintro e w2 ⟨rfl, b2⟩
      have H2 := hid (H.out.on b2)
      generalize p.count (k : Int) = c at *
      clear b2 hrow hhas
      go_wp2
      go_roundw
      case rel => exact ⟨k + 1, by omega, by go_num, by rw [HS.out]; go_num, H2.out⟩
      case measure => simp [intOf]; omega
    · have hk3 : k = 3 := by omega
      subst hk3
      rw [H3.out]
      go_wp2
      go_ret
      exact ⟨rfl, hJR.2.2⟩

/-- A hole among the first slots. -/
def holeAt (p : Pc) (n : Nat) : Bool := (p.nth n).known && decide (n % 9 ≠ 0) && !(p.nth (n - 1)).known
def Pc.holeTo (p : Pc) : Nat → Bool
  | 0 => false
  | n + 1 => p.holeTo n || holeAt p n
theorem holeTo_mono (p : Pc) (k m : Nat) (h : k ≤ m) (hk : p.holeTo k = true) : p.holeTo m = true := by
  induction m with
  | zero => have : k = 0 := by omega
            subst this; exact hk
  | succ m ih =>
    by_cases e : k = m + 1
    · subst e; exact hk
    · rw [Pc.holeTo, ih (by omega)]; rfl
theorem holeTo_ri (p : Pc) (r i : Nat) (hi : i < 9) (h0 : 0 < i) : holeAt p (r * 9 + i) = ((p r i).known && !(p r (i - 1)).known) := by
  unfold holeAt
  rw [Pc.nth_ri p r i hi, show r * 9 + i - 1 = r * 9 + (i - 1) by omega, Pc.nth_ri p r (i - 1) (by omega)]
  have : decide ((r * 9 + i) % 9 ≠ 0) = true := by simp; omega
  rw [this]; simp

set_option maxRecDepth 100000 in
set_option maxHeartbeats 1000000 in
theorem hasHole_any (p : Pc) (w : World) :
    Calls Tryz.prog 75 #[.agg p.arr] w fun e w' => e = .returned (.bool (p.holeTo 27)) ∧ Blw w w' := by
  obtain ⟨t, ht⟩ : ∃ t, t = p.holeTo 27 := ⟨_, rfl⟩
  rw [← ht]
  have HT := hid ht
  have HM := hid (holeTo_mono p)
  have HB := hid (HasPc.start p w)
  clear ht
  go_enter Tryz.func75, Tryz.ntmps75
  go_wp2
  go_loop [3] (fun r => ∃ k : Nat, k ≤ 3 ∧ r = .int .i64 k ∧ p.holeTo (k * 9) = false) (fun r => 3 - (intOf r).toNat)
  case atStart => exact ⟨0, by omega, rfl, rfl⟩
  case round =>
    obtain ⟨k, hk, rfl, hd⟩ := hrel
    have HD := hid hd
    clear hd
    by_cases hlt : k < 3
    · have hd3 : decide ((k : Int) < 3) = true := by simp; omega
      go_wp2
      go_loop [4] (fun i => ∃ m : Nat, 1 ≤ m ∧ m ≤ 9 ∧ i = .int .i64 m ∧ p.holeTo (k * 9 + m) = false) (fun i => 9 - (intOf i).toNat)
      case atStart => exact ⟨1, by omega, by omega, rfl, by
        show p.holeTo (k * 9 + 1) = false
        rw [Pc.holeTo, HD.out]
        have : decide (k * 9 % 9 ≠ 0) = false := by simp
        simp [holeAt]⟩
      case round =>
        obtain ⟨m, hm1, hm, rfl, hdm⟩ := hrel
        have HDm := hid hdm
        clear hdm
        by_cases hlm : m < 9
        · obtain ⟨p0, _, _, _, _⟩ := cells5 HB.out.1 k m hlt hlm
          obtain ⟨p0', _, _, _, _⟩ := cells5 HB.out.1 k (m - 1) hlt (by omega)
          have HS : Hid (p.holeTo (k * 9 + (m + 1)) = (p.holeTo (k * 9 + m) || ((p k m).known && !(p k (m - 1)).known))) := by
            show p.holeTo (k * 9 + m + 1) = _
            rw [Pc.holeTo, holeTo_ri p k m hlm (by omega)]
          have hk0 : (0 : Int) ≤ (k : Int) := Int.natCast_nonneg _
          have hk3 : (k : Int) < 3 := by omega
          have hm0 : (0 : Int) ≤ (m : Int) := Int.natCast_nonneg _
          have hm9 : (m : Int) < 9 := by omega
          obtain ⟨m', rfl⟩ : ∃ m', m = m' + 1 := ⟨m - 1, by omega⟩
          simp only [Nat.add_sub_cancel] at p0' HS
          cases ha : (p k (m' + 1)).known
          · rw [ha] at p0 HS
            have HF : Hid (p.holeTo (k * 9 + (m' + 1 + 1)) = false) := by show _ = _; rw [HS.out, HDm.out]; rfl
            go_wp2
            go_round
            case rel => exact ⟨m' + 1 + 1, by omega, by omega, by go_num, HF.out⟩
            case measure => simp [intOf]; omega
          · rw [ha] at p0 HS
            cases hb : (p k m').known
            · rw [hb] at p0' HS
              have HF : Hid (t = true) := by
                show t = true
                rw [HT.out]; exact HM.out (k * 9 + (m' + 1 + 1)) 27 (by omega) (by rw [HS.out]; simp)
              go_wp2
              go_ret
              exact ⟨by rw [HF.out]; rfl, HB.out.2.2⟩
            · rw [hb] at p0' HS
              have HF : Hid (p.holeTo (k * 9 + (m' + 1 + 1)) = false) := by show _ = _; rw [HS.out, HDm.out]; rfl
              go_wp2
              go_round
              case rel => exact ⟨m' + 1 + 1, by omega, by omega, by go_num, HF.out⟩
              case measure => simp [intOf]; omega
        · have hm9 : m = 9 := by omega
          subst hm9
          go_wp2
          go_round
          case rel => exact ⟨k + 1, by omega, by go_num, by rw [show (k + 1) * 9 = k * 9 + 9 by omega]; exact HDm.out⟩
          case measure => simp [intOf]; omega
    · have hk3 : k = 3 := by omega
      subst hk3
      have HF : Hid (t = false) := by show t = false; rw [HT.out]; exact HD.out
      go_wp2
      go_ret
      exact ⟨by rw [HF.out]; rfl, HB.out.2.2⟩
end Go.Proofs.YtalaldfgjgpacaaGreatDoor

namespace Go.Proofs.YtalaldfgjgpacaaGreatDoor
set_option linter.unusedVariables false
set_option linter.unusedSimpArgs false
open Go.RowKit
attribute [local go_sem ↓] Go.wp_at_zero Go.wp_at_succ run_load63 run_store63
attribute [local go_sem] blkOf_mk offOf_mk isPt_mk isRow_pc Has_drew HasW_drew rowOf_drew

def entEq (a b : Sl) : Bool := a.cart == b.cart && (a.item == b.item && a.value == b.value)
def clashSl (a b : Sl) : Bool := a.filled && b.filled && !entEq a b
def clashTo (p q : Pc) : Nat → Bool
  | 0 => false
  | n + 1 => clashTo p q n || clashSl (p.nth n) (q.nth n)
theorem clashTo_mono (p q : Pc) (k m : Nat) (h : k ≤ m) (hk : clashTo p q k = true) : clashTo p q m = true := by
  induction m with
  | zero => have : k = 0 := by omega
            subst this; exact hk
  | succ m ih =>
    by_cases e : k = m + 1
    · subst e; exact hk
    · rw [clashTo, ih (by omega)]; rfl

theorem neq91 (c i v c' i' v' : Int) (wx : World) : (binOp .neq 59 (.agg #[.int .i64 c, .int .i64 i, .int .i64 v]) (.agg #[.int .i64 c', .int .i64 i', .int .i64 v'])).run Tryz.prog wx = .ok (.bool (!(c == c' && (i == i' && v == v')))) wx := by
  by_cases h2 : c = c' <;> by_cases h3 : i = i' <;> by_cases h4 : v = v' <;> simp [go_sem, h2, h3, h4]

/-- Two pieces in boxes. -/
structure Two2 (p q : Pc) (w wr : World) : Prop where
  a : wr.heap[w.heap.size]? = some (.cells p.arr 65)
  b : wr.heap[w.heap.size + 1]? = some (.cells q.arr 65)
  bl : Blw w wr
theorem Two2.start (p q : Pc) (w : World) : Two2 p q w ((w.alloc (.cells p.arr 65)).alloc (.cells q.arr 65)) :=
  ⟨hp_old _ (by simp) (hp_new w _), hp_new2 w _ _, ((Blw.rfl _).al _).al _⟩
theorem Two2.on {p q : Pc} {w wr w' : World} (h : Two2 p q w wr) (hb : Blw wr w') : Two2 p q w w' := ⟨hb.bk' h.a, hb.bk' h.b, h.bl.tr hb⟩

set_option maxRecDepth 100000 in
set_option maxHeartbeats 2000000 in
theorem clash_any (p q : Pc) (w : World) :
    Calls Tryz.prog 76 #[.agg p.arr, .agg q.arr] w fun e w' => e = .returned (.bool (clashTo p q 27)) ∧ Blw w w' := by
  obtain ⟨t, ht⟩ : ∃ t, t = clashTo p q 27 := ⟨_, rfl⟩
  rw [← ht]
  have HT := hid ht
  have HM := hid (clashTo_mono p q)
  clear ht
  go_enter Tryz.func76, Tryz.ntmps76
  go_wp2
  go_loopw [5] (fun r wr => ∃ k : Nat, k ≤ 3 ∧ r = .int .i64 k ∧ clashTo p q (k * 9) = false ∧ Two2 p q w wr) (fun r _ => 3 - (intOf r).toNat)
  case atStart => exact ⟨0, by omega, rfl, rfl, Two2.start p q w⟩
  case round =>
    obtain ⟨k, hk, rfl, hd, hT2⟩ := hrel
    have HD := hid hd
    have T2 := hid hT2
    clear hd hT2
    by_cases hlt : k < 3
    · have hd3 : decide ((k : Int) < 3) = true := by simp; omega
      go_wp2
      go_loopw [6] (fun i wr => ∃ m : Nat, m ≤ 9 ∧ i = .int .i64 m ∧ clashTo p q (k * 9 + m) = false ∧ Two2 p q w wr) (fun i _ => 9 - (intOf i).toNat)
      case atStart => exact ⟨0, by omega, rfl, HD.out, T2.out⟩
      case round =>
        clear T2
        obtain ⟨m, hm, rfl, hdm, hT2⟩ := hrel
        have HDm := hid hdm
        have T2 := hid hT2
        clear hdm
        by_cases hlm : m < 9
        · obtain ⟨p0, p1, p2, p3, p4⟩ := cells5 hT2.a k m hlt hlm
          obtain ⟨q0, q1, q2, q3, q4⟩ := cells5 hT2.b k m hlt hlm
          have x0 := cell_al (w := wr) (o := k * 45 + m * 5) (.cells (p k m).cells.toArray 61) (lt_of_blk hT2.b)
          have x1 := cell_al (w := wr) (o := k * 45 + m * 5 + 1) (.cells (p k m).cells.toArray 61) (lt_of_blk hT2.b)
          have x2 := cell_al (w := wr) (o := k * 45 + m * 5 + 2) (.cells (p k m).cells.toArray 61) (lt_of_blk hT2.b)
          have x3 := cell_al (w := wr) (o := k * 45 + m * 5 + 3) (.cells (p k m).cells.toArray 61) (lt_of_blk hT2.b)
          have x4 := cell_al (w := wr) (o := k * 45 + m * 5 + 4) (.cells (p k m).cells.toArray 61) (lt_of_blk hT2.b)
          rw [q0] at x0; rw [q1] at x1; rw [q2] at x2; rw [q3] at x3; rw [q4] at x4
          have HS : Hid (clashTo p q (k * 9 + (m + 1)) = (clashTo p q (k * 9 + m) || clashSl (p k m) (q k m))) := by
            show clashTo p q (k * 9 + m + 1) = _
            rw [clashTo, Pc.nth_ri _ _ _ hlm, Pc.nth_ri _ _ _ hlm]
          have HC : Hid (clashSl (p k m) (q k m) = ((p k m).filled && (q k m).filled && !((p k m).cart == (q k m).cart && ((p k m).item == (q k m).item && (p k m).value == (q k m).value)))) := rfl
          have hk0 : (0 : Int) ≤ (k : Int) := Int.natCast_nonneg _
          have hk3 : (k : Int) < 3 := by omega
          have hm0 : (0 : Int) ≤ (m : Int) := Int.natCast_nonneg _
          have hm9 : (m : Int) < 9 := by omega
          have hnq := neq91
          clear hT2
          unfold Sl.cells at x0 x1 x2 x3 x4
          generalize p k m = a at *
          generalize q k m = b at *
          obtain ⟨ak, af, ac, ai, av⟩ := a
          obtain ⟨bk, bf, bc, bi, bv⟩ := b
          simp only [] at *
          cases af
          · have HF : Hid (clashTo p q (k * 9 + (m + 1)) = false) := by show _ = _; rw [HS.out, HDm.out, HC.out]; rfl
            go_wp2
            go_roundw
            case rel => exact ⟨m + 1, by omega, by go_num, HF.out, T2.out.on (((Blw.rfl _).al _).al _)⟩
            case measure => simp [intOf]; omega
          · cases bf
            · have HF : Hid (clashTo p q (k * 9 + (m + 1)) = false) := by show _ = _; rw [HS.out, HDm.out, HC.out]; rfl
              go_wp2
              go_roundw
              case rel => exact ⟨m + 1, by omega, by go_num, HF.out, T2.out.on (((Blw.rfl _).al _).al _)⟩
              case measure => simp [intOf]; omega
            · obtain ⟨ee, hee⟩ : ∃ ee, ee = (ac == bc && (ai == bi && av == bv)) := ⟨_, rfl⟩
              have hn2 := hnq ac ai av bc bi bv
              rw [← hee] at hn2 HC
              clear hnq hee
              cases ee
              · have HF : Hid (t = true) := by
                  show t = true
                  rw [HT.out]; exact HM.out (k * 9 + (m + 1)) 27 (by omega) (by rw [HS.out, HC.out]; simp)
                go_wp2
                go_ret
                exact ⟨by rw [HF.out]; rfl, T2.out.bl.tr (((Blw.rfl _).al _).al _)⟩
              · have HF : Hid (clashTo p q (k * 9 + (m + 1)) = false) := by show _ = _; rw [HS.out, HDm.out, HC.out]; rfl
                go_wp2
                go_roundw
                case rel => exact ⟨m + 1, by omega, by go_num, HF.out, T2.out.on (((Blw.rfl _).al _).al _)⟩
                case measure => simp [intOf]; omega
        · have hm9 : m = 9 := by omega
          subst hm9
          clear hT2
          go_wp2
          go_roundw
          case rel => exact ⟨k + 1, by omega, by go_num, by rw [show (k + 1) * 9 = k * 9 + 9 by omega]; exact HDm.out, T2.out⟩
          case measure => simp [intOf]; omega
    · have hk3 : k = 3 := by omega
      subst hk3
      have HF : Hid (t = false) := by show t = false; rw [HT.out]; exact HD.out
      go_wp2
      go_ret
      exact ⟨by rw [HF.out]; rfl, T2.out.bl⟩

/-- Dots of the cluster's replicas alone. -/
def ofTo (p : Pc) (n : Nat) : Nat → Bool
  | 0 => true
  | k + 1 => ofTo p n k && (decide (k < n) || decide (p.count (k : Int) = 0))

set_option maxRecDepth 100000 in
set_option maxHeartbeats 1000000 in
theorem isOfCluster_any (b me n : Nat) (h0 p : Pc) (x : Ext) (w : World) (hn : n ≤ 3) (h : w.heap[b]? = some (.cells (repArr me n h0 x) 69)) :
    Calls Tryz.prog 73 #[.pointer (some ⟨b, 0, none⟩), .agg p.arr] w fun e w' => e = .returned (.bool (ofTo p n 3)) ∧ Blw w w' := by
  obtain ⟨t, ht⟩ : ∃ t, t = ofTo p n 3 := ⟨_, rfl⟩
  rw [← ht]
  have HT := hid ht
  have HB := hid (HasPc.start p w)
  have c1 := rep_n (HB.out.2.2.bk' h)
  clear ht h
  have base : ∀ k, k ≤ n → ofTo p n k = true := by
    intro k
    induction k with
    | zero => intro _; rfl
    | succ k ih => intro hk; rw [ofTo, ih (by omega)]; simp; left; omega
  have HBs := hid (base n (Nat.le_refl _))
  have mono : ∀ k m, k ≤ m → ofTo p n k = false → ofTo p n m = false := by
    intro k m hkm hk
    induction m with
    | zero => have : k = 0 := by omega
              subst this; exact hk
    | succ m ih =>
      by_cases e : k = m + 1
      · subst e; exact hk
      · rw [ofTo, ih (by omega)]; rfl
  have HMo := hid mono
  clear base mono
  go_enter Tryz.func73, Tryz.ntmps73
  go_wp2
  go_loopw [5] (fun r wr => ∃ k : Nat, n ≤ k ∧ k ≤ 3 ∧ r = .int .i64 k ∧ ofTo p n k = true ∧ HasPc p w wr) (fun r _ => 3 - (intOf r).toNat)
  case atStart => exact ⟨n, by omega, hn, rfl, HBs.out, HB.out⟩
  case round =>
    obtain ⟨k, hnk, hk, rfl, hd, hJR⟩ := hrel
    have HD := hid hd
    clear hd
    by_cases hlt : k < 3
    · have H := hid hJR
      have hrow := rowOf_pc hJR.1
      have hhas := Has_pc hJR.1
      have hc := Pc.count_le p (k : Int)
      have HS : Hid (ofTo p n (k + 1) = (ofTo p n k && (decide (k < n) || decide (p.count (k : Int) = 0)))) := rfl
      clear hJR
      go_wp2_with fail
      refine (count_any p (k : Int) _).mono ?_
      rintro e w2 ⟨rfl, b2⟩
      have H2 := hid (H.out.on b2)
      generalize p.count (k : Int) = cc at *
      clear b2 hrow hhas
      by_cases hcc : 0 < cc
      · have HF : Hid (t = false) := by
          show t = false
          rw [HT.out]; exact HMo.out (k + 1) 3 (by omega) (by rw [HS.out, HD.out]; simp; omega)
        go_wp2
        go_ret
        exact ⟨by rw [HF.out]; rfl, H2.out.2.2⟩
      · have hc0 : cc = 0 := by omega
        subst hc0
        have HF : Hid (ofTo p n (k + 1) = true) := by show _ = _; rw [HS.out, HD.out]; simp
        go_wp2
        go_roundw
        case rel => exact ⟨k + 1, by omega, by omega, by go_num, HF.out, H2.out⟩
        case measure => simp [intOf]; omega
    · have hk3 : k = 3 := by omega
      subst hk3
      have HF : Hid (t = true) := by show t = true; rw [HT.out]; exact HD.out
      have B := hid hJR.2.2
      clear hJR
      go_wp2
      go_ret
      exact ⟨by rw [HF.out]; rfl, B.out⟩
end Go.Proofs.YtalaldfgjgpacaaGreatDoor

namespace Go.Proofs.YtalaldfgjgpacaaGreatDoor
set_option linter.unusedVariables false
set_option linter.unusedSimpArgs false
open Go.RowKit
attribute [local go_sem ↓] Go.wp_at_zero Go.wp_at_succ run_load63 run_store63
attribute [local go_sem] blkOf_mk offOf_mk isPt_mk isRow_pc Has_drew HasW_drew rowOf_drew HasW_new Has_alloc rowOf_alloc

/-- What a replica's row and a piece's box give. -/
theorem facts4 {w wr : World} {b me n : Nat} {h0 p : Pc} {x : Ext} (h1 : wr.heap[b]? = some (.cells (repArr me n h0 x) 69)) (h2 : wr.heap[w.heap.size]? = some (.cells p.arr 65)) :
    Has wr b 2 ∧ rowOf wr b 2 = h0.arr ∧ Has wr w.heap.size 0 ∧ rowOf wr w.heap.size 0 = p.arr := ⟨Has_rep h1, rowOf_rep h1, Has_pc h2, rowOf_pc h2⟩

def fitsB (n : Nat) (h0 p : Pc) : Bool := ofTo p n 3 && (!clashTo h0 p 27 && !(h0.join p).holeTo 27)
/-- Why a piece may not be joined; 0: it may. -/
def checkE (n : Nat) (h0 p : Pc) : Int := if ofTo p n 3 = true then (if (h0.join p).holeTo 27 = true then 7 else if clashTo h0 p 27 = true then 8 else 0) else 6
theorem checkE_fits (n : Nat) (h0 p : Pc) : fitsB n h0 p = decide (checkE n h0 p = 0) := by
  unfold fitsB checkE
  cases ofTo p n 3 <;> cases clashTo h0 p 27 <;> cases (h0.join p).holeTo 27 <;> rfl
theorem checkE_bd (n : Nat) (h0 p : Pc) : 0 ≤ checkE n h0 p ∧ checkE n h0 p ≤ 8 := by
  unfold checkE
  cases ofTo p n 3 <;> cases clashTo h0 p 27 <;> cases (h0.join p).holeTo 27 <;> simp

set_option maxRecDepth 100000 in
set_option maxHeartbeats 2000000 in
theorem checkPiece_any (b me n : Nat) (h0 p : Pc) (x : Ext) (w : World) (hn : n ≤ 3) (h : w.heap[b]? = some (.cells (repArr me n h0 x) 69)) :
    Calls Tryz.prog 31 #[.pointer (some ⟨b, 0, none⟩), .agg p.arr] w fun e w' => e = .returned (.int .i64 (checkE n h0 p)) ∧ Blw w w' := by
  have HB := hid (HasPc.start p w)
  have H := hid h
  have HI := hid (fun wx hx => isOfCluster_any b me n h0 p x wx hn hx)
  have HC := hid (fun wx => clash_any h0 p wx)
  have HJ := hid (fun wx => join_any h0 p wx)
  have HH := hid (fun wx => hasHole_any (h0.join p) wx)
  have hrow := rowOf_pc HB.out.1
  have hhas := Has_pc HB.out.1
  have hbl := lt_of_blk h
  have HFD : Hid (checkE n h0 p = if ofTo p n 3 = true then (if (h0.join p).holeTo 27 = true then 7 else if clashTo h0 p 27 = true then 8 else 0) else 6) := rfl
  obtain ⟨t, ht⟩ : ∃ t, t = checkE n h0 p := ⟨_, rfl⟩
  rw [← ht] at HFD
  rw [← ht]
  clear h ht
  go_enter Tryz.func31, Tryz.ntmps31
  go_wp2_with fail
  refine (HI.out _ (HB.out.2.2.bk' H.out)).mono ?_
  rintro e w1 ⟨rfl, b1⟩
  have P1 := hid (HB.out.on b1)
  have R1 := hid (P1.out.2.2.bk' H.out)
  clear b1 hrow hhas
  cases ho : ofTo p n 3
  · have HF : Hid (t = 6) := by show t = 6; rw [HFD.out, ho]; rfl
    go_wp2
    go_ret
    exact ⟨by rw [HF.out]; rfl, P1.out.2.2⟩
  · obtain ⟨a1, a2, a3, a4⟩ := facts4 R1.out P1.out.1
    have z0 := lt_of_blk R1.out
    have z1 := lt_of_blk P1.out.1
    go_wp2_with fail
    go_cut [5] (fun s w' => ∃ nb, s = .pointer (some ⟨nb, 0, none⟩) ∧ w'.heap[nb]? = some (.cells (h0.join p).arr 65) ∧ Blw w1 w')
    case first =>
      go_region_with (first | (go_at_call 74; refine (HJ.out _).mono ?_; rintro e w3 ⟨rfl, b3⟩; have sz3 : w1.heap.size ≤ w3.heap.size := (by have := b3.sz; simp at this; omega); (first | (have hW3 : HasW w3 w1.heap.size 0 := HasW_of (b3.bk' (hp_new w1 (.cells Tryz.zeroCells65 65))) zle63; have R := hid (putB (xt := x) (q := h0.join p) (Blw.rfl w1) R1.out b3)) | (have R := hid (putA (xt := x) (q := h0.join p) (Blw.rfl w1) R1.out b3)))))
      all_goals
        go_wp2_with fail
        go_meet
        case rel => exact ⟨_, rfl, R.out.1, R.out.2.2⟩
    case rest =>
      obtain ⟨nb, rfl, g1, g2⟩ := hcut
      have r5 := rowOf_pc g1
      have h5 := Has_pc g1
      have G2 := hid g2
      clear g1 g2 a1 a2 a3 a4
      go_wp2_with fail
      refine (HH.out _).mono ?_
      rintro e w5 ⟨rfl, b5⟩
      have B5 := hid (G2.out.tr b5)
      have P5 := hid (P1.out.on B5.out)
      have R5 := hid (B5.out.bk' R1.out)
      clear r5 h5 b5
      cases hh : (h0.join p).holeTo 27
      · obtain ⟨a1, a2, a3, a4⟩ := facts4 R5.out P5.out.1
        go_wp2_with fail
        go_region_held3 (fun w' => Has w' b 2 ∧ rowOf w' b 2 = h0.arr ∧ Has w' w.heap.size 0 ∧ rowOf w' w.heap.size 0 = p.arr) (first | exact Q1.out | exact ⟨a1, a2, a3, a4⟩)
          (first | (go_at_call 76; refine (HC.out _).mono ?_; rintro e w6 ⟨rfl, b6⟩; have B6 := hid (Blw.tr (Blw.dr (Blw.rfl _)) b6); have Q1 := hid (facts4 (B6.out.bk' R5.out) (B6.out.bk' P5.out.1)); clear b6))
        clear a1 a2 a3 a4
        cases hcl : clashTo h0 p 27
        · have HF : Hid (t = 0) := by show t = 0; rw [HFD.out, ho, hh, hcl]; rfl
          go_wp2
          go_ret
          exact ⟨by rw [HF.out]; rfl, P5.out.2.2.tr B6.out⟩
        · have HF : Hid (t = 8) := by show t = 8; rw [HFD.out, ho, hh, hcl]; rfl
          go_wp2
          go_ret
          exact ⟨by rw [HF.out]; rfl, P5.out.2.2.tr B6.out⟩
      · have HF : Hid (t = 7) := by show t = 7; rw [HFD.out, ho, hh]; rfl
        go_wp2
        go_ret
        exact ⟨by rw [HF.out]; rfl, P5.out.2.2⟩

set_option maxRecDepth 100000 in
set_option maxHeartbeats 2000000 in
theorem hasNews_any (b me n : Nat) (h0 p : Pc) (x : Ext) (w : World) (h : w.heap[b]? = some (.cells (repArr me n h0 x) 69)) :
    Calls Tryz.prog 32 #[.pointer (some ⟨b, 0, none⟩), .agg p.arr] w fun e w' => e = .returned (.bool (decide (h0.dots < (h0.join p).dots))) ∧ Blw w w' := by
  have HB := hid (HasPc.start p w)
  have H := hid h
  have HJ := hid (fun wx => join_any h0 p wx)
  have HS := hid (fun q wx => size_any q wx)
  have R1 := hid (HB.out.2.2.bk' h)
  have l1 := size_le27 h0
  have l2 := size_le27 (h0.join p)
  obtain ⟨a1, a2, a3, a4⟩ := facts4 R1.out HB.out.1
  have z0 := lt_of_blk R1.out
  have z1 := lt_of_blk HB.out.1
  obtain ⟨t, ht⟩ : ∃ t, t = decide (h0.dots < (h0.join p).dots) := ⟨_, rfl⟩
  rw [← ht]
  have HT := hid ht
  clear h ht
  go_enter Tryz.func32, Tryz.ntmps32
  go_wp2_with fail
  generalize hw2 : w.alloc (.cells p.arr 65) = w2 at *
  clear hw2
  go_cut [5] (fun s w' => ∃ nb, s = .pointer (some ⟨nb, 0, none⟩) ∧ w'.heap[nb]? = some (.cells (h0.join p).arr 65) ∧ w'.heap[b]? = some (.cells (repArr me n h0 x) 69) ∧ Blw w w')
  case first =>
    go_region_with (first | (go_at_call 74; refine (HJ.out _).mono ?_; rintro e w3 ⟨rfl, b3⟩; have sz3 : w2.heap.size ≤ w3.heap.size := (by have := b3.sz; simp at this; omega); (first | (have hW3 : HasW w3 w2.heap.size 0 := HasW_of (b3.bk' (hp_new w2 (.cells Tryz.zeroCells65 65))) zle63; have R := hid (putB (xt := x) (q := h0.join p) HB.out.2.2 R1.out b3)) | (have R := hid (putA (xt := x) (q := h0.join p) HB.out.2.2 R1.out b3)))))
    all_goals
      go_wp2_with fail
      go_meet
      case rel => exact ⟨_, rfl, R.out.1, R.out.2.1, R.out.2.2⟩
  case rest =>
    obtain ⟨nb, rfl, g1, g2, g3⟩ := hcut
    have G1 := hid g1
    have G3 := hid g3
    have r2 := rowOf_rep g2
    have h2 := Has_rep g2
    clear g1 g2 g3 a1 a2 a3 a4
    go_wp2_with fail
    refine (HS.out h0 _).mono ?_
    rintro e w5 ⟨rfl, b5⟩
    have r6 := rowOf_pc (b5.bk' G1.out)
    have h6 := Has_pc (b5.bk' G1.out)
    clear r2 h2
    go_wp2_with fail
    refine (HS.out (h0.join p) _).mono ?_
    rintro e w6 ⟨rfl, b6⟩
    clear r6 h6
    by_cases hlt : h0.dots < (h0.join p).dots
    · have HF : Hid (t = true) := by show t = true; rw [HT.out]; simpa using hlt
      go_wp2
      go_ret
      exact ⟨by rw [HF.out]; first | rfl | simp [hlt], G3.out.tr (b5.tr b6)⟩
    · have HF : Hid (t = false) := by show t = false; rw [HT.out]; simpa using hlt
      go_wp2
      go_ret
      exact ⟨by rw [HF.out]; first | rfl | simp [hlt], G3.out.tr (b5.tr b6)⟩
end Go.Proofs.YtalaldfgjgpacaaGreatDoor
