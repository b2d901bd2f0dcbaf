import Derived.Test.YtalaldfgjgpacaaGreatDoorQE
namespace Go.Proofs.YtalaldfgjgpacaaGreatDoor
set_option linter.unusedVariables false
set_option linter.unusedSimpArgs false
open Go.RowKit
attribute [local go_sem ↓] Go.wp_at_zero Go.wp_at_succ

set_option maxRecDepth 100000 in
set_option maxHeartbeats 1000000 in
theorem value2_any (a b : Nat) (w : World) (ha : a < 10) (hb : b < 10) :
    Calls Tryz.prog 86 #[.string ⟨#[dig a, dig b]⟩] w fun e w' => e = .returned (.int .i64 ((a * 10 + b : Nat) : Int)) ∧ w' = w := by
  obtain ⟨y, hy, h0, h1, hy0, hy1⟩ : ∃ y : ByteArray, y = ⟨#[dig a, dig b]⟩ ∧ ∃ (h0 : 0 < y.size) (h1 : 1 < y.size), y[0]'h0 = dig a ∧ y[1]'h1 = dig b := ⟨_, rfl, (show 0 < 2 by decide), (show 1 < 2 by decide), rfl, rfl⟩
  have hy2 : y.size = 2 := by rw [hy]; rfl
  rw [← hy]
  have e0 : ((y[0]'h0).toNat : Int) = 48 + a := by rw [hy0, dig_toNat a (by omega)]; omega
  have e1 : ((y[1]'h1).toNat : Int) = 48 + b := by rw [hy1, dig_toNat b (by omega)]; omega
  clear hy hy0 hy1
  go_enter Tryz.func86, Tryz.ntmps86
  go_wp2
  go_loop [3, 4] (fun n i => (i = .int .i64 0 ∧ n = .int .i64 0) ∨ (i = .int .i64 1 ∧ n = .int .i64 a) ∨ (i = .int .i64 2 ∧ n = .int .i64 ((a * 10 + b : Nat) : Int))) (fun _ i => 2 - (intOf i).toNat)
  case atStart => exact .inl ⟨rfl, rfl⟩
  case round =>
    rcases hrel with ⟨rfl, rfl⟩ | ⟨rfl, rfl⟩ | ⟨rfl, rfl⟩
    · go_wp2
      go_round
      case rel => exact .inr (.inl ⟨rfl, by go_num⟩)
      case measure => simp [intOf]
    · go_wp2
      go_round
      case rel => exact .inr (.inr ⟨rfl, by go_num⟩)
      case measure => simp [intOf]
    · go_wp2
      go_ret
      exact ⟨rfl, rfl⟩

set_option maxRecDepth 100000 in
set_option maxHeartbeats 1000000 in
theorem worth_any (s : Sl) (r i : Nat) (w : World) (hg : s.good) :
    Calls Tryz.prog 101 #[strV (s.text r i)] w fun e w' => e = .returned (.int .i64 s.value) ∧ w' = w := by
  obtain ⟨x, hx⟩ : ∃ x : Bs, x = s.text r i := ⟨_, rfl⟩
  have hv0 := hg.v0
  have hv1 := hg.v1
  have h7 : (ByteArray.mk x.toArray).size = 7 := by rw [bs_size, hx]; rfl
  have HX : Hid ((ByteArray.mk x.toArray).extract 5 7 = ByteArray.mk #[dig (s.value.natAbs / 10), dig (s.value.natAbs % 10)]) := by
    show _ = _
    rw [bs_extract, hx]; rfl
  have HV := hid (fun wx => value2_any (s.value.natAbs / 10) (s.value.natAbs % 10) wx (by omega) (by omega))
  have hab : (((s.value.natAbs / 10 * 10 + s.value.natAbs % 10 : Nat)) : Int) = (s.value.natAbs : Int) := by omega
  rw [hab] at HV
  obtain ⟨y, hy⟩ : ∃ y : ByteArray, y = ⟨x.toArray⟩ := ⟨_, rfl⟩
  rw [← hy] at h7 HX
  have h4 : 4 < y.size := by omega
  have HB : Hid ((y[4]'h4) = if s.value < 0 then 45 else 43) := by
    show (y[4]'h4) = _
    subst hy; rw [byte_at, hx]; rfl
  rw [← hx]
  unfold strV
  rw [← hy]
  clear hx hy hab hg
  generalize s.value = v at *
  by_cases hneg : v < 0
  · rw [if_pos hneg] at HB
    have hb : ((y[4]'h4).toNat : Int) = 45 := by rw [HB.out]; rfl
    have HN : Hid ((v.natAbs : Int) = -v) := by show _ = _; omega
    rw [HN.out] at HV
    go_enter Tryz.func101, Tryz.ntmps101
    go_wp2_with fail
    rw [HX.out]
    refine (HV.out _).mono ?_
    rintro e w1 ⟨rfl, hw1⟩
    subst w1
    go_wp2
    go_ret
    exact ⟨by first | rfl | (congr 2; omega), rfl⟩
  · rw [if_neg hneg] at HB
    have hb : ((y[4]'h4).toNat : Int) = 43 := by rw [HB.out]; rfl
    have HN : Hid ((v.natAbs : Int) = v) := by show _ = _; omega
    rw [HN.out] at HV
    go_enter Tryz.func101, Tryz.ntmps101
    go_wp2_with fail
    rw [HX.out]
    refine (HV.out _).mono ?_
    rintro e w1 ⟨rfl, hw1⟩
    subst w1
    go_wp2
    go_ret
    exact ⟨rfl, rfl⟩

theorem decDigits_step (d : Nat) (hd : 10 ≤ d) : Lib.decDigits d = Lib.decDigits (d / 10) ++ [dig (d % 10)] := by
  rw [Lib.decDigits, dif_neg (by omega)]; rfl

set_option maxRecDepth 100000 in
set_option maxHeartbeats 1000000 in
theorem num1 (d : Nat) (w : World) (hd : d < 10) : Calls Tryz.prog 102 #[.int .i64 d] w fun e w' => e = .returned (.string ⟨#[dig d]⟩) ∧ Blw w w' := by
  have HD := hid (digits_any d 1 w (by omega) (by omega))
  have HL : Hid (lastD d 1 = [dig d]) := by show lastD d 1 = _; simp [lastD, Nat.mod_eq_of_lt hd]
  rw [HL.out] at HD
  go_enter Tryz.func102, Tryz.ntmps102
  go_wp2_with fail
  refine HD.out.mono ?_
  rintro e w1 ⟨rfl, b1⟩
  go_wp2
  go_ret
  exact ⟨rfl, b1⟩

set_option maxRecDepth 100000 in
set_option maxHeartbeats 1000000 in
theorem num_step (d : Nat) (w : World) (hd : 10 ≤ d) (hd2 : d < 10000) (hrec : ∀ wx, Calls Tryz.prog 102 #[.int .i64 ((d : Int) / 10)] wx fun e w' => e = .returned (.string ⟨(Lib.decDigits (d / 10)).toArray⟩) ∧ Blw wx w') :
    Calls Tryz.prog 102 #[.int .i64 d] w fun e w' => e = .returned (.string ⟨(Lib.decDigits d).toArray⟩) ∧ Blw w w' := by
  have hlen : (Lib.decDigits (d / 10)).length ≤ 4 := dd_len 3 (d / 10) (by omega)
  have HREC := hid hrec
  have HDD := hid (decDigits_step d hd)
  have HD := hid (digits_any d 1 w (by omega) (by omega))
  have HL : Hid (lastD d 1 = [dig (d % 10)]) := by show lastD d 1 = _; simp [lastD]
  rw [HL.out] at HD
  generalize Lib.decDigits d = ld at *
  generalize Lib.decDigits (d / 10) = lq at *
  clear hrec
  go_enter Tryz.func102, Tryz.ntmps102
  go_wp2_with fail
  refine HD.out.mono ?_
  rintro e w1 ⟨rfl, b1⟩
  go_wp2_with fail
  refine (HREC.out _).mono ?_
  rintro e w2 ⟨rfl, b2⟩
  go_wp2
  go_ret
  exact ⟨ret_str (by rw [HDD.out]; exact bytes_app lq [dig (d % 10)]), b1.tr b2⟩

theorem num_pos : ∀ (f d : Nat) (w : World), d < 10000 → d < 10 ^ (f + 1) → Calls Tryz.prog 102 #[.int .i64 d] w fun e w' => e = .returned (.string ⟨(Lib.decDigits d).toArray⟩) ∧ Blw w w' := by
  intro f
  induction f with
  | zero =>
    intro d w h1 h2
    have hd : d < 10 := by simpa using h2
    rw [Lib.decDigits, dif_pos hd]
    exact num1 d w hd
  | succ f ih =>
    intro d w h1 h2
    by_cases hd : d < 10
    · rw [Lib.decDigits, dif_pos hd]
      exact num1 d w hd
    · refine num_step d w (by omega) h1 fun wx => ?_
      have h3 : d / 10 < 10 ^ (f + 1) := by
        rw [Nat.div_lt_iff_lt_mul (by decide)]
        rw [Nat.pow_succ] at h2; exact h2
      have := ih (d / 10) wx (by omega) h3
      rwa [show (((d / 10 : Nat)) : Int) = (d : Int) / 10 from by omega] at this

set_option maxRecDepth 100000 in
set_option maxHeartbeats 400000 in
theorem number_any (z : Int) (w : World) (h0 : -9999 ≤ z) (h1 : z ≤ 9999) : Calls Tryz.prog 102 #[.int .i64 z] w fun e w' => e = .returned (.string ⟨(Lib.itoa z).toArray⟩) ∧ Blw w w' := by
  by_cases hz : z < 0
  · have HR := hid (num_pos 3 z.natAbs w (by omega) (by omega))
    have hl : (Lib.decDigits z.natAbs).length ≤ 4 := dd_len 3 _ (by omega)
    have HI : Hid (Lib.itoa z = 45 :: Lib.decDigits z.natAbs) := by show Lib.itoa z = _; rw [Lib.itoa, if_pos hz]
    generalize Lib.itoa z = li at *
    rw [show ((z.natAbs : Nat) : Int) = -z from by omega] at HR
    generalize Lib.decDigits z.natAbs = ld at *
    go_enter Tryz.func102, Tryz.ntmps102
    go_wp2_with fail
    refine HR.out.mono ?_
    rintro e w1 ⟨rfl, b1⟩
    go_wp2
    go_ret
    exact ⟨ret_str (by rw [HI.out]; exact bytes_app [45] ld), b1⟩
  · obtain ⟨d, rfl⟩ := Int.eq_ofNat_of_zero_le (show 0 ≤ z by omega)
    have := num_pos 3 d w (by omega) (by omega)
    rw [Lib.itoa, if_neg hz]
    exact this
end Go.Proofs.YtalaldfgjgpacaaGreatDoor

namespace Go.Proofs.YtalaldfgjgpacaaGreatDoor
set_option linter.unusedVariables false
set_option linter.unusedSimpArgs false
open Go.RowKit
attribute [local go_sem ↓] Go.wp_at_zero Go.wp_at_succ

/-- The value that an entry's text tells. -/
def worthB (x : Bs) : Int :=
  let v : Int := (((x.getD 5 0).toNat - 48) * 10 + ((x.getD 6 0).toNat - 48) : Nat)
  if x.getD 4 0 = 45 then -v else v
theorem worthB_text (s : Sl) (r i : Nat) (hg : s.good) : worthB (s.text r i) = s.value := by
  have h0 := hg.v0
  have h1 := hg.v1
  have e4 : (s.text r i).getD 4 0 = if s.value < 0 then 45 else 43 := rfl
  have e5 : (s.text r i).getD 5 0 = dig (s.value.natAbs / 10) := rfl
  have e6 : (s.text r i).getD 6 0 = dig (s.value.natAbs % 10) := rfl
  unfold worthB
  rw [e4, e5, e6, dig_toNat _ (by omega), dig_toNat _ (by omega)]
  by_cases hn : s.value < 0
  · rw [if_pos hn]; simp only [if_true]; omega
  · rw [if_neg hn]; simp only [show ¬ ((43 : UInt8) = 45) by decide, if_false]; omega

def cntL (nm : Bs) (E : List Bs) : Nat := E.countP (fun t => t.take 2 == nm)
def sumL (nm : Bs) : List Bs → Int
  | [] => 0
  | t :: E => (if t.take 2 == nm then worthB t else 0) + sumL nm E
theorem cntL_app (nm : Bs) (a b : List Bs) : cntL nm (a ++ b) = cntL nm a + cntL nm b := by simp [cntL, List.countP_append]
theorem sumL_app (nm : Bs) (a b : List Bs) : sumL nm (a ++ b) = sumL nm a + sumL nm b := by
  induction a with
  | nil => simp [sumL]
  | cons x a ih => simp only [List.cons_append, sumL, ih]; omega

theorem elTo_other (p : Pc) (nm : Bs) (c it : Int) (n : Nat) (h : ∀ t ∈ p.elTo c it n, (t.take 2 == nm) = false) : cntL nm (p.elTo c it n) = 0 ∧ sumL nm (p.elTo c it n) = 0 := by
  generalize p.elTo c it n = l at *
  induction l with
  | nil => exact ⟨rfl, rfl⟩
  | cons x l ih =>
    have h1 := h x List.mem_cons_self
    obtain ⟨i1, i2⟩ := ih (fun t ht => h t (List.mem_cons_of_mem _ ht))
    refine ⟨?_, ?_⟩
    · unfold cntL at i1 ⊢; rw [List.countP_cons, i1, h1]; rfl
    · rw [sumL, i2, h1]; rfl
theorem elTo_self (p : Pc) (hp : p.ok) (c it : Int) (n : Nat) (hn : n ≤ 27) : (0 < cntL [cartB c.toNat, itemB it.toNat] (p.elTo c it n) ↔ p.anyTo c it n = true) ∧ sumL [cartB c.toNat, itemB it.toNat] (p.elTo c it n) = p.sumTo c it n := by
  induction n with
  | zero => simp [cntL, sumL, Pc.elTo, Pc.anyTo, Pc.sumTo]
  | succ n ih =>
    obtain ⟨i1, i2⟩ := ih (by omega)
    rw [Pc.elTo, Pc.anyTo, Pc.sumTo, cntL_app, sumL_app, i2]
    by_cases hi : (p.nth n).isOf c it = true
    · obtain ⟨hf, hc, ht⟩ := isOf_eq hi
      have hg := hp.good (show n / 9 < 3 by omega) (show n % 9 < 9 by omega) hf
      have htk : ((((p.nth n).text (n / 9) (n % 9 + 1)).take 2) == [cartB c.toNat, itemB it.toNat]) = true := by rw [text_take2, hc, ht]; simp
      simp only [hi, if_true, Bool.or_true]
      refine ⟨⟨fun _ => by simp, fun _ => ?_⟩, ?_⟩
      · have : cntL [cartB c.toNat, itemB it.toNat] [(p.nth n).text (n / 9) (n % 9 + 1)] = 1 := by unfold cntL; rw [List.countP_cons, htk]; rfl
        omega
      · simp only [sumL, htk, if_true]
        rw [worthB_text (p.nth n) _ _ hg]; omega
    · have hi' : (p.nth n).isOf c it = false := by simpa using hi
      simp only [hi', Bool.false_eq_true, if_false, Bool.or_false]
      have e1 : cntL [cartB c.toNat, itemB it.toNat] [] = 0 := rfl
      have e2 : sumL [cartB c.toNat, itemB it.toNat] [] = 0 := rfl
      rw [e1, e2]
      exact ⟨by rw [Nat.add_zero]; exact i1, by omega⟩

theorem elAll_sum (p : Pc) (hp : p.ok) (c it : Nat) (hc : c < 3) (hi : it < 4) (n : Nat) (hn : n ≤ 12) : (0 < cntL [cartB c, itemB it] (p.elAll n) ↔ (c * 4 + it < n ∧ p.anyTo (c : Int) (it : Int) 27 = true)) ∧ sumL [cartB c, itemB it] (p.elAll n) = if c * 4 + it < n then p.sumTo (c : Int) (it : Int) 27 else 0 := by
  induction n with
  | zero => simp [cntL, sumL, Pc.elAll]
  | succ n ih =>
    obtain ⟨i1, i2⟩ := ih (by omega)
    rw [Pc.elAll, cntL_app, sumL_app, i2]
    by_cases e : n = c * 4 + it
    · have h1 : n / 4 = c := by omega
      have h2 : n % 4 = it := by omega
      have hs := elTo_self p hp (c : Int) (it : Int) 27 (by omega)
      simp only [Int.toNat_natCast] at hs
      rw [h1, h2, hs.2, if_neg (by omega), if_pos (by omega)]
      have hz : ¬ 0 < cntL [cartB c, itemB it] (p.elAll n) := fun h => by have := (i1.1 h).1; omega
      refine ⟨⟨fun h => ⟨by omega, hs.1.1 (by omega)⟩, fun h => by have := hs.1.2 h.2; omega⟩, by omega⟩
    · have ho := elTo_other p [cartB c, itemB it] ((n / 4 : Nat) : Int) ((n % 4 : Nat) : Int) 27 (fun t ht => by
        obtain ⟨m, hm, hio, rfl⟩ := (mem_elTo _ _ _ _ _).1 ht
        obtain ⟨hf, hcc, htt⟩ := isOf_eq hio
        rw [text_take2, hcc, htt]
        simp only [Int.toNat_natCast]
        rw [beq_eq_false_iff_ne]
        intro he
        simp only [List.cons.injEq, and_true] at he
        have e1 := cartB_inj he.1 (by omega) (by omega)
        have e2 := itemB_inj he.2 (by omega) (by omega)
        omega)
      rw [ho.1, ho.2]
      by_cases hlt : c * 4 + it < n
      · rw [if_pos hlt, if_pos (by omega)]
        exact ⟨⟨fun h => ⟨by omega, (i1.1 (by omega)).2⟩, fun h => by have := i1.2 ⟨hlt, h.2⟩; omega⟩, by omega⟩
      · rw [if_neg hlt, if_neg (by omega)]
        exact ⟨⟨fun h => absurd (i1.1 (by omega)).1 hlt, fun h => by omega⟩, by omega⟩

theorem sumL_take (nm : Bs) (E : List Bs) (k : Nat) (hk : k < E.length) : sumL nm (E.take (k + 1)) = sumL nm (E.take k) + (if (E.getD k []).take 2 == nm then worthB (E.getD k []) else 0) := by
  rw [list_app_idx E k [] hk, sumL_app]; simp [sumL]
theorem cntL_take (nm : Bs) (E : List Bs) (k : Nat) (hk : k < E.length) : cntL nm (E.take (k + 1)) = cntL nm (E.take k) + (if (E.getD k []).take 2 == nm then 1 else 0) := by
  rw [list_app_idx E k [] hk, cntL_app]; simp [cntL, List.countP_cons]
theorem cntL_le (nm : Bs) (E : List Bs) (k : Nat) : cntL nm (E.take k) ≤ k := by
  unfold cntL
  have := List.countP_le_length (p := fun t : Bs => t.take 2 == nm) (l := E.take k)
  rw [List.length_take] at this; omega
theorem sumL_bd (nm : Bs) (E : List Bs) (h : ∀ t ∈ E, -99 ≤ worthB t ∧ worthB t ≤ 99) (k : Nat) : -(99 * k : Int) ≤ sumL nm (E.take k) ∧ sumL nm (E.take k) ≤ 99 * k := by
  induction k with
  | zero => simp [sumL]
  | succ k ih =>
    by_cases hk : k < E.length
    · rw [sumL_take nm E k hk]
      have := h _ (mem_getD E k hk)
      split <;> omega
    · rw [List.take_of_length_le (by omega), ← List.take_of_length_le (show E.length ≤ k by omega)]
      omega

set_option maxRecDepth 100000 in
set_option maxHeartbeats 4000000 in
theorem rread_yes (cb me n : Nat) (p : Pc) (x : Ext) (lt : Value) (s : ByteArray) (c : Nat) (w : World) (hn : n ≤ 3) (hs : s.size ≤ maxLen) (hR : RefAt w cb me n p x lt) (hp : p.fine) (hc : c < 3) (hE : tokErr n p s.data.toList = 0) :
    Calls Tryz.prog 50 #[.pointer (some ⟨cb, 0, none⟩), .string s, .int .i64 c] w fun e w' => e = .returned (.tuple #[.string ⟨(p.sumsTo (c : Int) 4).toArray⟩, .string ⟨(p.digsTo n).toArray⟩, .int .i64 0]) ∧ Blw w w' := by
  obtain ⟨a, b, ac, D, E, ln, ls, h1, h2, h3, h4, h5, h6⟩ := hR.h
  have hP := h6.pcAt hp.ok h2 h3
  have HM := hid (may_any cb me n a b x.had lt ac x.log D E p s w hn hs h1 hP (h6.known hp.ok))
  rw [hE] at HM
  have HIC := hid (risCart_any (c : Int) w)
  rw [show cartB3 (c : Int) = true by simp [cartB3]; omega] at HIC
  have HTk := hid (fun wx hx => rtoken_any cb me n a b x.had lt ac x.log D E wx hn hx)
  rw [h6.tok hp.ok n] at HTk
  have HNm := hid (fun (i : Nat) (hi : i < 4) wx => name_any (c : Int) (i : Int) wx (by omega) (by omega) (by omega) (by omega))
  have HWo : Hid (∀ t ∈ E, ∃ (sl : Sl) (r i : Nat), sl.good ∧ t = sl.text r i) := fun t ht => by
    obtain ⟨r, i, hr, hi, hf, rfl⟩ := (h6.me t).1 ht
    exact ⟨_, _, _, hp.ok.good hr hi hf, rfl⟩
  have HWb : Hid (∀ t ∈ E, -99 ≤ worthB t ∧ worthB t ≤ 99) := fun t ht => by
    obtain ⟨sl, r, i, hg, rfl⟩ := HWo.out t ht
    rw [worthB_text _ _ _ hg]; exact ⟨hg.v0, hg.v1⟩
  have HSu := hid (fun it (hi : it < 4) => elAll_sum p hp.ok c it hc hi 12 (by omega))
  rw [← h6.eqE hp.ok] at HSu
  have HL7 := hid (sumsTo_len p hp.ok (c : Int))
  have HSB := hid (fun it => sumTo_bd p hp.ok (c : Int) it 27 (by omega))
  have lE : E.length ≤ 27 := h6.lenE hp.ok
  have HH := hid h1
  have HPc := hid hP
  obtain ⟨bo, kb, rfl, ob⟩ := h3.op
  have OB := hid ob
  clear h1 h2 h3 h4 h5 h6 hP hR hE ob hp
  go_enter Tryz.func50, Tryz.ntmps50
  go_wp2_with fail
  refine HIC.out.mono ?_
  rintro e w1 ⟨rfl, hw1⟩
  subst w1
  go_wp2_with fail
  refine HM.out.mono ?_
  rintro e w1 ⟨rfl, hw1⟩
  subst w1
  go_wp2_with fail
  go_loopw [10, 11] (fun s i wr => ∃ k : Nat, k ≤ 4 ∧ i = .int .i64 k ∧ s = .string ⟨(p.sumsTo (c : Int) k).toArray⟩ ∧ Blw w wr) (fun _ i _ => 4 - (intOf i).toNat)
  case atStart => exact ⟨0, by omega, rfl, rfl, Blw.rfl _⟩
  case round =>
    obtain ⟨k, hk, rfl, rfl, hb⟩ := hrel
    have B := hid hb
    clear hb
    by_cases hlt : k < 4
    · obtain ⟨nm, hnm⟩ : ∃ nm : Bs, nm = [cartB c, itemB k] := ⟨_, rfl⟩
      have HNk := hid (HNm.out k hlt wr)
      rw [show (ByteArray.mk #[cartB (c : Int).toNat, itemB (k : Int).toNat]) = ByteArray.mk nm.toArray by rw [hnm]; rfl] at HNk
      have HSk := hid (HSu.out k hlt)
      rw [← hnm] at HSk
      have hnl : nm.length = 2 := by rw [hnm]; rfl
      have hss := HL7.out k
      have hsb := HSB.out (k : Int)
      have HX : Hid (p.sumsTo (c : Int) (k + 1) = if p.anyTo (c : Int) (k : Int) 27 then (if (p.sumsTo (c : Int) k).isEmpty then [] else p.sumsTo (c : Int) k ++ [44]) ++ [itemB k] ++ Lib.itoa (p.sumTo (c : Int) (k : Int) 27) else p.sumsTo (c : Int) k) := rfl
      clear hnm
      generalize p.sumsTo (c : Int) k = tx at *
      go_wp2_with fail
      refine HNk.out.mono ?_
      rintro e w2 ⟨rfl, b2⟩
      have B2 := hid (B.out.tr b2)
      have c3 := (ref_n (B2.out.bq HH.out)).2.2.2.1
      clear b2
      go_wp2_with fail
      go_loop [13, 14, 15] (fun m sm i => ∃ j : Nat, j ≤ E.length ∧ i = .int .i64 j ∧ m = .int .i64 ((cntL nm (E.take j) : Nat) : Int) ∧ sm = .int .i64 (sumL nm (E.take j))) (fun _ _ i => E.length - (intOf i).toNat)
      case atStart => exact ⟨0, by omega, rfl, rfl, rfl⟩
      case round =>
        obtain ⟨j, hj, rfl, rfl, rfl⟩ := hrel
        have hcl := cntL_le nm E j
        have hsl := sumL_bd nm E HWb.out j
        by_cases hlj : j < E.length
        · obtain ⟨g, rfl, hg, hcc⟩ := OB.out (by omega)
          have hck := (bcell B2.out).1 g j hg
          rw [hcc j hlj] at hck
          obtain ⟨sl, r', i', hgood, htx⟩ := HWo.out _ (mem_getD E j hlj)
          have HC1 := hid (cntL_take nm E j hlj)
          have HS1 := hid (sumL_take nm E j hlj)
          have hwb := HWb.out _ (mem_getD E j hlj)
          have HWr := hid (fun wx => worth_any sl r' i' wx hgood)
          have hwv := worthB_text sl r' i' hgood
          rw [← htx] at HWr hwv
          clear hcc
          have h7 : (E.getD j []).length = 7 := by rw [htx, text_len]
          generalize E.getD j [] = y at *
          generalize cntL nm (E.take j) = q at *
          generalize sumL nm (E.take j) = z at *
          rw [hwv] at hwb HS1
          clear htx hgood hwv
          generalize sl.value = v at *
          have hys := bs_size y
          unfold strV at hck HWr
          have hcm : (((ByteArray.mk y.toArray).extract 0 2).toList == nm) = (y.take 2 == nm) := by rw [bs_extract, bs_toList]; simp
          cases hT : (y.take 2 == nm)
          · rw [hT] at hcm HC1 HS1
            go_wp2
            go_round
            case rel => exact ⟨j + 1, by omega, by go_num, by rw [HC1.out]; go_num, by first | (rw [HS1.out]; go_num) | (rw [HS1.out]; simp)⟩
            case measure => simp [intOf]; omega
          · rw [hT] at hcm HC1 HS1
            go_wp2_with fail
            refine (HWr.out _).mono ?_
            rintro e w3 ⟨rfl, hw3⟩
            subst w3
            go_wp2
            go_round
            case rel => exact ⟨j + 1, by omega, by go_num, by rw [HC1.out]; go_num, by rw [HS1.out]; go_num⟩
            case measure => simp [intOf]; omega
        · have hjn : j = E.length := by omega
          subst hjn
          rw [List.take_length] at hcl hsl
          rw [List.take_length]
          have HS2 := HSk.out.2
          rw [if_pos (by omega)] at HS2
          have HA : Hid (0 < cntL nm E ↔ p.anyTo (c : Int) (k : Int) 27 = true) := ⟨fun h => (HSk.out.1.1 h).2, fun h => HSk.out.1.2 ⟨by omega, h⟩⟩
          rw [HS2]
          clear HS2
          have HNo := hid (fun wx => number_any (p.sumTo (c : Int) (k : Int) 27) wx (by omega) (by omega))
          have hil := itoa_len (p.sumTo (c : Int) (k : Int) 27) (by omega) (by omega)
          generalize p.sumTo (c : Int) (k : Int) 27 = z at *
          generalize Lib.itoa z = zt at *
          generalize cntL nm E = q at *
          by_cases hq : 0 < q
          · have hany : p.anyTo (c : Int) (k : Int) 27 = true := HA.out.1 hq
            have hcv := conv1 (65 + (k : Int))
            have e65 : UInt8.ofNat (65 + (k : Int)).toNat = itemB k := by unfold itemB; congr 1
            rw [e65] at hcv
            have HX1 : Hid (p.sumsTo (c : Int) (k + 1) = (if tx.isEmpty then [] else tx ++ [44]) ++ [itemB k] ++ zt) := by rw [HX.out, hany]; exact rfl
            clear e65 hany HX
            generalize itemB k = ib at *
            by_cases htx : tx = []
            · subst htx
              have t2 := hid (ByteArray.mk_append_mk [ib] zt)
              go_wp2_with fail
              refine (HNo.out _).mono ?_
              rintro e w3 ⟨rfl, b3⟩
              have B3 := hid (B2.out.tr b3)
              clear b3 c3
              go_wp2
              go_roundw
              case rel => exact ⟨k + 1, by omega, by go_num, by rw [HX1.out]; exact congrArg Value.string (by rw [show ByteArray.mk #[] ++ ByteArray.mk #[ib] = ByteArray.mk [ib].toArray from ByteArray.mk_append_mk [] [ib], t2.out]; rfl), B3.out.al _⟩
              case measure => simp [intOf]; omega
            · have hne : (tx == []) = false := by simpa using htx
              have hem : tx.isEmpty = false := by simpa using htx
              rw [hem] at HX1
              clear htx hem
              obtain ⟨z1, hz1⟩ : ∃ z1, z1 = tx ++ [44] := ⟨_, rfl⟩
              obtain ⟨z2, hz2⟩ : ∃ z2, z2 = z1 ++ [ib] := ⟨_, rfl⟩
              have t1 : ByteArray.mk tx.toArray ++ ByteArray.mk #[44] = ByteArray.mk z1.toArray := by rw [hz1]; exact ByteArray.mk_append_mk tx [44]
              have t2 : ByteArray.mk z1.toArray ++ ByteArray.mk #[ib] = ByteArray.mk z2.toArray := by rw [hz2]; exact ByteArray.mk_append_mk z1 [ib]
              have l1 : z1.length = tx.length + 1 := by rw [hz1]; simp
              have l2 : z2.length = tx.length + 2 := by rw [hz2]; simp [l1]
              have HZ : Hid ((if false = true then [] else tx ++ [44]) ++ [ib] ++ zt = z2 ++ zt) := by show _ = _; rw [hz2, hz1]; rfl
              rw [HZ.out] at HX1
              have t3 := hid (ByteArray.mk_append_mk z2 zt)
              clear hz1 hz2 HZ
              go_wp2_with fail
              refine (HNo.out _).mono ?_
              rintro e w3 ⟨rfl, b3⟩
              have B3 := hid (B2.out.tr b3)
              clear b3 c3
              go_wp2
              go_roundw
              case rel => exact ⟨k + 1, by omega, by go_num, by rw [HX1.out, ← t3.out], B3.out.al _⟩
              case measure => simp [intOf]; omega
          · have hany : p.anyTo (c : Int) (k : Int) 27 = false := by
              rw [← Bool.not_eq_true]; exact fun ha => hq (HA.out.2 ha)
            have HX1 : Hid (p.sumsTo (c : Int) (k + 1) = tx) := by rw [HX.out, hany]; exact rfl
            clear HX hany
            have hq0 : q = 0 := by omega
            subst hq0
            go_wp2
            go_roundw
            case rel => exact ⟨k + 1, by omega, by go_num, by rw [HX1.out], B2.out⟩
            case measure => simp [intOf]; omega
    · have hk4 : k = 4 := by omega
      subst hk4
      have hss := HL7.out 4
      obtain ⟨tx, htx⟩ : ∃ tx, tx = p.sumsTo (c : Int) 4 := ⟨_, rfl⟩
      rw [← htx] at hss
      rw [← htx]
      have HTX := hid htx
      clear htx
      go_wp2_with fail
      refine (HTk.out _ (B.out.bq HH.out) (HPc.out.on B.out)).mono ?_
      rintro e w2 ⟨rfl, b2⟩
      go_wp2
      refine bodyPost_ret (v := .tuple #[.string ⟨tx.toArray⟩, .string ⟨(p.digsTo n).toArray⟩, .int .i64 0]) (by simp [results, Tryz.results50, go_sem]) rfl ⟨by rw [HTX.out], B.out.tr b2⟩
end Go.Proofs.YtalaldfgjgpacaaGreatDoor
