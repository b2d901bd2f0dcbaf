import Derived.Test.YtalaldfgjgpacaaGreatDoorHAC
import Derived.Test.YtalaldfgjgpacaaGreatDoorHAD
import Derived.Test.YtalaldfgjgpacaaGreatDoorHAE
import Derived.Test.YtalaldfgjgpacaaGreatDoorHAF
import Derived.Deep.RegionWith
import Derived.Deep.DeepCutAuto
namespace Go.Proofs.YtalaldfgjgpacaaGreatDoor
set_option linter.unusedVariables false
set_option linter.unusedSimpArgs false
open Go.RowKit
attribute [local go_sem ↓] Go.wp_at_zero Go.wp_at_succ run_load63 run_store63
attribute [local go_sem] blkOf_mk offOf_mk isPt_mk isRow_pc Has_drew HasW_drew rowOf_drew

set_option maxRecDepth 100000 in
set_option maxHeartbeats 1000000 in
theorem dotsText_any (p : Pc) (w : World) :
    Calls Tryz.prog 153 #[.agg p.arr] w fun e w' => e = .returned (.string ⟨(p.dtTo 27).toArray⟩) ∧ Blw w w' := by
  go_enter Tryz.func153, Tryz.ntmps153
  go_wp2
  go_loopw [3, 4] (fun s r wr => ∃ k : Nat, k ≤ 3 ∧ r = .int .i64 k ∧ s = .string ⟨(p.dtTo (k * 9)).toArray⟩ ∧ HasPc p w wr) (fun _ r _ => 3 - (intOf r).toNat)
  case atStart => exact ⟨0, by omega, rfl, rfl, HasPc.start p w⟩
  case round =>
    obtain ⟨k, hk, rfl, rfl, hJR⟩ := hrel
    by_cases hlt : k < 3
    · have hd : decide ((k : Int) < 3) = true := by simp; omega
      go_wp2
      go_loopw [3, 5] (fun s i wr => ∃ m : Nat, m ≤ 9 ∧ i = .int .i64 m ∧ s = .string ⟨(p.dtTo (k * 9 + m)).toArray⟩ ∧ HasPc p w wr) (fun _ i _ => 9 - (intOf i).toNat)
      case atStart => exact ⟨0, by omega, rfl, rfl, hJR⟩
      case round =>
        clear hJR
        obtain ⟨m, hm, rfl, rfl, hJR⟩ := hrel
        by_cases hlm : m < 9
        · have H := hid hJR
          have hln := dtTo_len p (k * 9 + m)
          have HS := hid (dtTo_succ p k m hlm)
          generalize p.dtTo (k * 9 + m) = tx at *
          obtain ⟨p0, p1, p2, p3, p4⟩ := cells5 hJR.1 k m hlt hlm
          have hk0 : (0 : Int) ≤ (k : Int) := Int.natCast_nonneg _
          have hk3 : (k : Int) < 3 := by omega
          have hm0 : (0 : Int) ≤ (m : Int) := Int.natCast_nonneg _
          have hm9 : (m : Int) < 9 := by omega
          clear hJR
          cases hi : (p k m).known
          · rw [hi] at p0
            go_wp2
            go_roundw
            case rel => exact ⟨m + 1, by omega, by go_num, by rw [HS.out, hi]; simp, H.out⟩
            case measure => simp [intOf]; omega
          · rw [hi] at p0
            go_wp2_with fail
            refine (dotText_any k (m + 1) _ (by omega) (by omega)).mono ?_
            rintro e w3 ⟨rfl, rfl⟩
            have tl : (dotT k m).length = 2 := rfl
            go_wp2
            go_roundw
            case rel => exact ⟨m + 1, by omega, by go_num, by rw [HS.out, hi]; exact congrArg Value.string (ByteArray.mk_append_mk tx (dotT k m)), H.out⟩
            case measure => simp [intOf]; omega
        · have hm9 : m = 9 := by omega
          subst hm9
          go_wp2
          go_roundw
          case rel => exact ⟨k + 1, by omega, by go_num, by rw [show (k + 1) * 9 = k * 9 + 9 by omega], hJR⟩
          case measure => simp [intOf]; omega
    · have hk3 : k = 3 := by omega
      subst hk3
      go_wp2
      go_ret
      exact ⟨rfl, hJR.2.2⟩

set_option maxRecDepth 100000 in
set_option maxHeartbeats 1000000 in
theorem text_any (p : Pc) (hp : p.ok) (w : World) :
    Calls Tryz.prog 129 #[.agg p.arr] w fun e w' => e = .returned (.string ⟨p.text.toArray⟩) ∧ Blw w w' := by
  have HT := hid (fun wx => dotsText_any p wx)
  have HE := hid (fun wx => entriesText_any p hp wx)
  have H0 := hid (HasPc.start p w)
  have hrow := rowOf_pc H0.out.1
  have hhas := Has_pc H0.out.1
  have l1 := dtTo_len p 27
  have l2 := entTo_len' p hp
  have HX : Hid (p.text = p.dtTo 27 ++ [59] ++ p.entTo 12) := rfl
  generalize p.dtTo 27 = d at *
  generalize p.entTo 12 = z at *
  clear hp
  go_enter Tryz.func129, Tryz.ntmps129
  go_wp2_with fail
  refine (HT.out _).mono ?_
  rintro e w1 ⟨rfl, b1⟩
  have H1 := hid (H0.out.on b1)
  have hrow1 := rowOf_pc H1.out.1
  have hhas1 := Has_pc H1.out.1
  clear b1 hrow hhas
  go_wp2_with fail
  refine (HE.out _).mono ?_
  rintro e w2 ⟨rfl, b2⟩
  have H2 := hid (H1.out.on b2)
  clear b2 hrow1 hhas1
  go_wp2
  go_ret
  exact ⟨ret_str (by rw [HX.out]; simp only [bytes_app, ByteArray.mk_append_mk]), H2.out.2.2⟩

set_option maxRecDepth 100000 in
set_option maxHeartbeats 1000000 in
theorem frame_any (l : Bs) (w : World) (hl : l.length < 1000) (ht : Tab Tryz.prog w) :
    Calls Tryz.prog 147 #[.string ⟨l.toArray⟩] w fun e w' => e = .returned (.string ⟨(frameL l).toArray⟩) ∧ Blw w w' := by
  have HT := hid (three_any l.length w hl ht)
  have HX : Hid (frameL l = [dig (l.length / 100), dig (l.length / 10 % 10), dig (l.length % 10)] ++ l) := by show frameL l = _; rw [three_last _ hl]; rfl
  clear ht
  go_enter Tryz.func147, Tryz.ntmps147
  go_wp2_with fail
  refine HT.out.mono ?_
  rintro e w1 ⟨rfl, b1⟩
  go_wp2
  go_ret
  exact ⟨ret_str (by rw [HX.out]; exact ByteArray.mk_append_mk _ l), b1⟩

set_option maxRecDepth 100000 in
set_option maxHeartbeats 1000000 in
theorem deltaFrame_any (p : Pc) (hp : p.ok) (w : World) (ht : Tab Tryz.prog w) :
    Calls Tryz.prog 131 #[.agg p.arr] w fun e w' => e = .returned (.string ⟨(frameL ([68] ++ p.text)).toArray⟩) ∧ Blw w w' := by
  have HT := hid (fun wx => text_any p hp wx)
  have H0 := hid (HasPc.start p w)
  have hrow := rowOf_pc H0.out.1
  have hhas := Has_pc H0.out.1
  have l1 := text_len' p hp
  have TB := hid ht
  generalize p.text = z at *
  have hl : ([68] ++ z).length < 1000 := by simp; omega
  have HF := hid (fun wx hw => frame_any ([68] ++ z) wx hl hw)
  have HA := hid (ByteArray.mk_append_mk [68] z)
  clear hp ht
  go_enter Tryz.func131, Tryz.ntmps131
  go_wp2_with fail
  refine (HT.out _).mono ?_
  rintro e w1 ⟨rfl, b1⟩
  have H1 := hid (H0.out.on b1)
  clear b1 hrow hhas
  go_wp2_with fail
  have HF1 := HF.out w1 (TB.out.blw H1.out.2.2)
  rw [← HA.out] at HF1
  refine HF1.mono ?_
  rintro e w2 ⟨rfl, b2⟩
  go_wp2
  go_ret
  exact ⟨rfl, H1.out.2.2.tr b2⟩

set_option maxRecDepth 100000 in
set_option maxHeartbeats 1000000 in
theorem wholeFrame_any (had : Nat) (p : Pc) (hp : p.ok) (w : World) (hh : had < 100) (ht : Tab Tryz.prog w) :
    Calls Tryz.prog 104 #[.int .i64 had, .agg p.arr] w fun e w' => e = .returned (.string ⟨(frameL ([83] ++ lastD had 2 ++ p.text)).toArray⟩) ∧ Blw w w' := by
  have HT := hid (fun wx => text_any p hp wx)
  have H0 := hid (HasPc.start p w)
  have l1 := text_len' p hp
  have TB := hid ht
  have H2 : Hid (lastD had 2 = [dig (had / 10), dig (had % 10)]) := by
    show lastD had 2 = _
    simp only [lastD, Nat.pow_zero, Nat.div_one, Nat.pow_one]; rw [Nat.mod_eq_of_lt (show had / 10 < 10 by omega)]
  rw [H2.out]
  generalize p.text = z at *
  have hl : ([83] ++ [dig (had / 10), dig (had % 10)] ++ z).length < 1000 := by simp; omega
  have HF := hid (fun wx hw => frame_any ([83] ++ [dig (had / 10), dig (had % 10)] ++ z) wx hl hw)
  have HA := hid (ByteArray.mk_append_mk ([83] ++ [dig (had / 10), dig (had % 10)]) z)
  have HA2 := hid (ByteArray.mk_append_mk [83] [dig (had / 10), dig (had % 10)])
  have HW := hid (fun wx => two_any had wx hh)
  clear hp ht
  go_enter Tryz.func104, Tryz.ntmps104
  go_wp2_with fail
  refine (HW.out _).mono ?_
  rintro e w0 ⟨rfl, rfl⟩
  have hrow := rowOf_pc H0.out.1
  have hhas := Has_pc H0.out.1
  go_wp2_with fail
  refine (HT.out _).mono ?_
  rintro e w1 ⟨rfl, b1⟩
  have H1 := hid (H0.out.on b1)
  clear b1 hrow hhas
  go_wp2_with fail
  have HF1 := HF.out w1 (TB.out.blw H1.out.2.2)
  rw [← HA.out, ← HA2.out] at HF1
  refine HF1.mono ?_
  rintro e w2 ⟨rfl, b2⟩
  go_wp2
  go_ret
  exact ⟨rfl, H1.out.2.2.tr b2⟩
end Go.Proofs.YtalaldfgjgpacaaGreatDoor

namespace Go.Proofs.YtalaldfgjgpacaaGreatDoor
set_option linter.unusedVariables false
set_option linter.unusedSimpArgs false
open Go.RowKit
variable {xt : Ext}
attribute [local go_sem ↓] Go.wp_at_zero Go.wp_at_succ

theorem stale_mono (p : Pc) (l : List UInt8) (k : Nat) (h : staleTo p l k = true) : ∀ m, k ≤ m → staleTo p l m = true := by
  intro m
  induction m with
  | zero => intro hk; have : k = 0 := by omega
            subst this; exact h
  | succ m ih =>
    intro hk
    by_cases e : k = m + 1
    · subst e; exact h
    · rw [staleTo, ih (by omega)]; rfl

set_option maxRecDepth 100000 in
set_option maxHeartbeats 1000000 in
theorem checkToken_any (b me n : Nat) (p : Pc) (s : ByteArray) (w : World) (hn : n ≤ 3) (hs : s.size ≤ maxLen) (h : w.heap[b]? = some (.cells (repArr me n p xt) 69)) :
    Calls Tryz.prog 98 #[.pointer (some ⟨b, 0, none⟩), .string s] w fun e w' => e = .returned (.int .i64 (tokErr n p s.data.toList)) ∧ Blw w w' := by
  have HS := hid hs
  unfold maxLen at hs
  have hbl := lt_of_blk h
  have HI := hid (show (Tryz.prog.info? 65).map (·.size) = some p.cells.length by rw [size63, Pc.len])
  have H0 := hid h
  have HZ := hid (show s.data.toList.length = s.size from Array.length_toList)
  clear h
  obtain ⟨t, ht⟩ : ∃ t, t = tokErr n p s.data.toList := ⟨_, rfl⟩
  rw [← ht]
  have HT := hid ht
  clear ht
  go_enter Tryz.func98, Tryz.ntmps98
  go_wp2_with fail
  refine (isToken_any b me n p s _ HS.out H0.out).mono ?_
  rintro e w1 ⟨rfl, hw1⟩
  subst w1
  cases htk : isTok n s.data.toList
  · have HF : Hid (t = 2) := by show t = 2; rw [HT.out, tokErr, htk]; rfl
    go_wp2
    go_ret
    exact ⟨by rw [HF.out]; rfl, Blw.rfl _⟩
  · have HK := hid htk
    clear htk
    have hn3 : s.size = n := by have := HK.out; simp only [isTok, Bool.and_eq_true, beq_iff_eq] at this; rw [← HZ.out]; exact this.1
    have hss : s.size ≤ 3 := by omega
    have hall : ∀ k (hk : k < s.size), 48 ≤ (s[k].toNat : Int) ∧ (s[k].toNat : Int) ≤ 57 := by
      intro k hk
      have := HK.out; simp only [isTok, Bool.and_eq_true] at this
      have h2 := (List.all_eq_true.1 this.2) s[k] (by rw [show s[k] = s.data.toList[k]'(by rw [HZ.out]; exact hk) from rfl]; exact List.getElem_mem _)
      simp only [isDigB, Bool.and_eq_true, decide_eq_true_eq, UInt8.le_iff_toNat_le] at h2
      have e1 : (48 : UInt8).toNat = 48 := rfl
      have e2 : (57 : UInt8).toNat = 57 := rfl
      omega
    have HALL := hid hall
    have HN3 := hid hn3
    clear hall hn3
    go_wp2_with fail
    go_loopw [5] (fun i wr => ∃ k : Nat, k ≤ s.size ∧ i = .int .i64 k ∧ staleTo p s.data.toList k = false ∧ Blw w wr) (fun i _ => s.size - (intOf i).toNat)
    case atStart => exact ⟨0, by omega, rfl, rfl, Blw.rfl _⟩
    case round =>
      obtain ⟨k, hk, rfl, hst, hb⟩ := hrel
      have HST := hid hst
      have H := hid hb
      have hr := (hb.bk b hbl).trans H0.out
      have hrg := rep_range hr
      clear hst hb hr
      by_cases hlt : k < s.size
      · obtain ⟨g0, g1⟩ := HALL.out k hlt
        have hcnt := Pc.count_le p (k : Int)
        have HE : Hid (staleTo p s.data.toList (k + 1) = decide (p.count (k : Int) < s[k].toNat - 48)) := by
          show staleTo p s.data.toList (k + 1) = _
          rw [staleTo, HST.out]
          simp [List.getD, List.getElem?_eq_getElem (show k < s.data.toList.length by rw [HZ.out]; exact hlt)]
          rfl
        go_wp2_with (first | (refine wpList_load_mid (by rfl) 65 (.tmp 25) (by rfl) b 2 (by rfl) p.cells _ hrg Tryz.underlying65 rfl HI.out ?_))
        refine (count_cells p k _).mono ?_
        rintro e w1 ⟨rfl, b1⟩
        have H1 := hid (H.out.tr b1)
        clear b1 hrg
        obtain ⟨d, hd⟩ : ∃ d, d = p.count (k : Int) := ⟨_, rfl⟩
        rw [← hd] at hcnt
        rw [← hd]
        have HD := hid hd
        clear hd
        by_cases hgt : (d : Int) < (s[k].toNat : Int) - 48
        · have HF : Hid (t = 3) := by
            show t = 3
            have h1 : staleTo p s.data.toList (k + 1) = true := by rw [HE.out, ← HD.out]; simp; omega
            rw [HT.out, tokErr, HK.out, stale_mono p _ _ h1 _ (by rw [HZ.out]; omega)]; rfl
          go_wp2
          go_ret
          exact ⟨by rw [HF.out]; rfl, H1.out⟩
        · have HG : Hid (staleTo p s.data.toList (k + 1) = false) := by
            show staleTo p s.data.toList (k + 1) = false
            rw [HE.out, ← HD.out]; simp; omega
          go_wp2
          go_roundw
          case rel => exact ⟨k + 1, by omega, by go_num, HG.out, H1.out⟩
          case measure => simp [intOf]; omega
      · have hkn : k = s.size := by omega
        subst hkn
        have HF : Hid (t = 0) := by
          show t = 0
          rw [HT.out, tokErr, HK.out, HZ.out, HST.out]; rfl
        go_wp2
        go_ret
        exact ⟨by rw [HF.out]; rfl, H.out⟩

end Go.Proofs.YtalaldfgjgpacaaGreatDoor

namespace Go.Proofs.YtalaldfgjgpacaaGreatDoor
set_option linter.unusedVariables false
set_option linter.unusedSimpArgs false
open Go.RowKit
variable {xt : Ext}
attribute [local go_sem ↓] Go.wp_at_zero Go.wp_at_succ run_load63 run_store63
attribute [local go_sem] blkOf_mk offOf_mk isPt_mk isRow_pc

set_option maxRecDepth 100000 in
set_option maxHeartbeats 400000 in
theorem nextNumber_any (b me n : Nat) (p : Pc) (w : World) (h : w.heap[b]? = some (.cells (repArr me n p xt) 69)) :
    Calls Tryz.prog 138 #[.pointer (some ⟨b, 0, none⟩)] w fun e w' => e = .returned (.int .i64 ((p.count (me : Int) : Int) + 1)) ∧ Blw w w' := by
  have hbl := lt_of_blk h
  have H := hid h
  have hme := rep_me h
  have hrow := rowOf_rep h
  have hhas := Has_rep h
  have hcnt := Pc.count_le p (me : Int)
  have HC := hid (fun wx => count_any p me wx)
  generalize p.count (me : Int) = d at *
  clear h
  go_enter Tryz.func138, Tryz.ntmps138
  go_wp2
  go_region_held3 (fun w' => Has w' b 2 ∧ rowOf w' b 2 = p.arr ∧ w'.cell? ⟨b, 0, none⟩ = some (.int .i64 me)) (first | exact ⟨hh1, hr1, hm1⟩ | exact ⟨hhas, hrow, hme⟩)
    (first | (go_at_call 82; refine (HC.out _).mono ?_; rintro e w1 ⟨rfl, b1⟩; have hr1 := rowOf_rep ((b1.bk b hbl).trans H.out); have hh1 := Has_rep ((b1.bk b hbl).trans H.out); have hm1 := rep_me ((b1.bk b hbl).trans H.out)))
  go_wp2
  go_ret
  exact ⟨rfl, Blw.tr (Blw.dr (Blw.rfl _)) b1⟩

/-- The world behind a draw. -/
theorem drew_blk {w : World} {b : Nat} {x : Option Obj} (h : w.heap[b]? = x) : w.drew.heap[b]? = x := h

set_option maxRecDepth 100000 in
set_option maxHeartbeats 400000 in
theorem checkEvent_any (b me n : Nat) (p : Pc) (s : ByteArray) (w : World) (hn : n ≤ 3) (hs : s.size ≤ maxLen) (h : w.heap[b]? = some (.cells (repArr me n p xt) 69)) :
    Calls Tryz.prog 137 #[.pointer (some ⟨b, 0, none⟩), .string s] w fun e w' => e = .returned (.int .i64 (evErr me n p s.data.toList)) ∧ Blw w w' := by
  have hbl := lt_of_blk h
  have H := hid h
  have HC := hid (fun wx => count_any p me wx)
  have HT := hid (checkToken_any b me n p s w hn hs h)
  have HE : Hid (evErr me n p s.data.toList = if tokErr n p s.data.toList = 0 then (if 9 ≤ p.count (me : Int) then 4 else 0) else tokErr n p s.data.toList) := rfl
  have hcnt := Pc.count_le p (me : Int)
  generalize evErr me n p s.data.toList = ee at *
  generalize tokErr n p s.data.toList = te at *
  generalize p.count (me : Int) = d at *
  clear h hs
  go_enter Tryz.func137, Tryz.ntmps137
  go_wp2_with fail
  refine HT.out.mono ?_
  rintro e w0 ⟨rfl, b0⟩
  by_cases ht : te = 0
  · have ht1 : (te != 0) = false := by simp [ht]
    have HE2 : Hid (ee = if 9 ≤ d then 4 else 0) := by show ee = _; rw [HE.out, if_pos ht]
    clear ht
    have B0 := hid b0
    have hrow := rowOf_rep ((b0.bk b hbl).trans H.out)
    have hhas := Has_rep ((b0.bk b hbl).trans H.out)
    have hme := rep_me ((b0.bk b hbl).trans H.out)
    have H2 := hid ((b0.bk b hbl).trans H.out)
    have hbl2 := lt_of_blk H2.out
    clear b0
    by_cases h9 : 9 ≤ d
    · have HE3 : Hid (ee = 4) := by show ee = _; rw [HE2.out, if_pos h9]
      go_wp2
      go_region_held3 (fun w' => Has w' b 2 ∧ rowOf w' b 2 = p.arr ∧ w'.cell? ⟨b, 0, none⟩ = some (.int .i64 me)) (first | exact ⟨hh1, hr1, hm1⟩ | exact ⟨hhas, hrow, hme⟩)
        (first | (go_at_call 82; refine (HC.out _).mono ?_; rintro e w1 ⟨rfl, b1⟩; have hr1 := rowOf_rep ((b1.bk b hbl2).trans H2.out); have hh1 := Has_rep ((b1.bk b hbl2).trans H2.out); have hm1 := rep_me ((b1.bk b hbl2).trans H2.out)))
      go_wp2
      go_ret
      exact ⟨by rw [HE3.out]; rfl, B0.out.tr (Blw.tr (Blw.dr (Blw.rfl _)) b1)⟩
    · have HE3 : Hid (ee = 0) := by show ee = _; rw [HE2.out, if_neg h9]
      go_wp2
      go_region_held3 (fun w' => Has w' b 2 ∧ rowOf w' b 2 = p.arr ∧ w'.cell? ⟨b, 0, none⟩ = some (.int .i64 me)) (first | exact ⟨hh1, hr1, hm1⟩ | exact ⟨hhas, hrow, hme⟩)
        (first | (go_at_call 82; refine (HC.out _).mono ?_; rintro e w1 ⟨rfl, b1⟩; have hr1 := rowOf_rep ((b1.bk b hbl2).trans H2.out); have hh1 := Has_rep ((b1.bk b hbl2).trans H2.out); have hm1 := rep_me ((b1.bk b hbl2).trans H2.out)))
      go_wp2
      go_ret
      exact ⟨by rw [HE3.out]; rfl, B0.out.tr (Blw.tr (Blw.dr (Blw.rfl _)) b1)⟩
  · have ht1 : (te != 0) = true := by simp [ht]
    have HE2 : Hid (ee = te) := by show ee = _; rw [HE.out, if_neg ht]
    clear ht
    go_wp2
    go_ret
    exact ⟨by rw [HE2.out]; rfl, b0⟩

end Go.Proofs.YtalaldfgjgpacaaGreatDoor

namespace Go.Proofs.YtalaldfgjgpacaaGreatDoor
set_option linter.unusedVariables false
set_option linter.unusedSimpArgs false
open Go.RowKit
attribute [local go_sem ↓] Go.wp_at_zero Go.wp_at_succ

/-- The number that digits tell. -/
def numTo (l : Bs) : Nat → Nat
  | 0 => 0
  | k + 1 => numTo l k * 10 + ((l.getD k 0).toNat - 48)
def okD (l : Bs) : Bool := decide (1 ≤ l.length) && (decide (l.length ≤ 3) && l.all isDigB)
theorem numTo_bd (l : Bs) (k : Nat) (h : ∀ j, j < k → isDigB (l.getD j 0) = true) : numTo l k < 10 ^ k := by
  induction k with
  | zero => simp [numTo]
  | succ k ih =>
    have h1 := ih (fun j hj => h j (by omega))
    have h2 := h k (by omega)
    simp only [isDigB, Bool.and_eq_true, decide_eq_true_eq, UInt8.le_iff_toNat_le] at h2
    have e2 : (57 : UInt8).toNat = 57 := rfl
    rw [numTo, Nat.pow_succ]; omega
theorem digsIn_at (l : Bs) : ∀ k, digsIn l k = true → ∀ j, j < k → isDigB (l.getD j 0) = true := by
  intro k
  induction k with
  | zero => intro _ j hj; omega
  | succ k ih =>
    intro h j hj
    rw [digsIn, Bool.and_eq_true] at h
    by_cases e : j = k
    · subst e; exact h.2
    · exact ih h.1 j (by omega)

set_option maxRecDepth 100000 in
set_option maxHeartbeats 2000000 in
theorem dread_any (l : Bs) (w : World) (hl : l.length ≤ 1000000000) :
    Calls Tryz.prog 127 #[.string ⟨l.toArray⟩] w fun e w' => e = .returned (.tuple #[.int .i64 ((if okD l then numTo l l.length else 0 : Nat) : Int), .bool (okD l)]) ∧ w' = w := by
  obtain ⟨s, hs⟩ : ∃ s : ByteArray, s = ⟨l.toArray⟩ := ⟨_, rfl⟩
  have hsz : s.size = l.length := by rw [hs, bs_size]
  have HB : Hid (∀ k (hk : k < s.size), s[k]'hk = l.getD k 0) := by
    show ∀ k (hk : k < s.size), s[k]'hk = l.getD k 0
    subst hs; exact byte_at l
  have HN := hid (digsIn_no l)
  have HDA := hid (digsIn_all l)
  have HDI := hid (digsIn_at l)
  have HNB := hid (numTo_bd l)
  have HZ := hid hsz
  have hl' : s.size ≤ 1000000000 := by omega
  obtain ⟨ok, hok⟩ : ∃ ok, ok = okD l := ⟨_, rfl⟩
  rw [← hok, ← hs]
  have HOK : Hid (ok = (decide (1 ≤ l.length) && (decide (l.length ≤ 3) && l.all isDigB))) := hok
  obtain ⟨nn, hnn⟩ : ∃ nn : Nat, nn = if ok then numTo l l.length else 0 := ⟨_, rfl⟩
  rw [← hnn]
  have HNN := hid hnn
  clear hs hsz hl hok hnn
  by_cases h1 : s.size < 1
  · have HF : Hid (ok = false ∧ nn = 0) := by
      have e : ok = false := by rw [HOK.out, ← HZ.out]; simp; omega
      exact ⟨e, by rw [HNN.out, e]; rfl⟩
    go_enter Tryz.func127, Tryz.ntmps127
    go_wp2
    go_ret2
    exact ⟨by rw [HF.out.1, HF.out.2]; rfl, rfl⟩
  · by_cases h3 : 3 < s.size
    · have HF : Hid (ok = false ∧ nn = 0) := by
        have e : ok = false := by rw [HOK.out, ← HZ.out]; simp; omega
        exact ⟨e, by rw [HNN.out, e]; rfl⟩
      go_enter Tryz.func127, Tryz.ntmps127
      go_wp2
      go_ret2
      exact ⟨by rw [HF.out.1, HF.out.2]; rfl, rfl⟩
    · go_enter Tryz.func127, Tryz.ntmps127
      go_wp2
      go_loop [4, 5] (fun n i => ∃ k : Nat, k ≤ s.size ∧ i = .int .i64 k ∧ n = .int .i64 ((numTo l k : Nat) : Int) ∧ digsIn l k = true) (fun _ i => s.size - (intOf i).toNat)
      case atStart => exact ⟨0, by omega, rfl, rfl, rfl⟩
      case round =>
        obtain ⟨k, hk, rfl, rfl, hdg⟩ := hrel
        have HDG := hid hdg
        have hnb : numTo l k < 1000 := Nat.lt_of_lt_of_le (HNB.out k (HDI.out k hdg)) (Nat.le_trans (Nat.pow_le_pow_right (by omega) (show k ≤ 3 by omega)) (by decide))
        clear hdg
        by_cases hlt : k < s.size
        · have HE := hid (HB.out k hlt)
          have HS : Hid (numTo l (k + 1) = numTo l k * 10 + ((l.getD k 0).toNat - 48)) := rfl
          rw [← HE.out] at HS
          generalize numTo l k = q at *
          have hbd : isDigB s[k] = decide (48 ≤ (s[k].toNat : Int) ∧ (s[k].toNat : Int) ≤ 57) := by
            unfold isDigB
            rw [Bool.eq_iff_iff]; simp [UInt8.le_iff_toNat_le]; omega
          have HBD := hid hbd
          clear hbd
          have no : isDigB s[k] = false → ok = false ∧ nn = 0 := fun hx => by
            have e : ok = false := by
              rw [HOK.out, HN.out k (by have := HZ.out; omega) (by rw [← HE.out]; exact hx)]; simp
            exact ⟨e, by rw [HNN.out, e]; rfl⟩
          have NO := hid no
          clear no
          by_cases g1 : (s[k].toNat : Int) < 48
          · have HF := hid (NO.out (by rw [HBD.out]; simp; omega))
            go_wp2
            go_ret2
            exact ⟨by rw [HF.out.1, HF.out.2]; rfl, rfl⟩
          · by_cases g2 : (57 : Int) < (s[k].toNat : Int)
            · have d1 : decide ((s[k].toNat : Int) < 48) = false := by simpa using g1
              have HF := hid (NO.out (by rw [HBD.out]; simp; omega))
              go_wp2
              go_ret2
              exact ⟨by rw [HF.out.1, HF.out.2]; rfl, rfl⟩
            · have d1 : decide ((s[k].toNat : Int) < 48) = false := by simpa using g1
              have d2 : decide ((57 : Int) < (s[k].toNat : Int)) = false := by simpa using g2
              have HG : Hid (digsIn l (k + 1) = true) := by
                show digsIn l (k + 1) = true
                rw [digsIn, HDG.out, ← HE.out, HBD.out]; simp; omega
              go_wp2
              go_round
              case rel => exact ⟨k + 1, by omega, by go_num, by rw [HS.out]; go_num, HG.out⟩
              case measure => simp [intOf]; omega
        · have hkn : k = s.size := by omega
          have HF : Hid (ok = true ∧ nn = numTo l k) := by
            have hall : l.all isDigB = true := by
              have := HDG.out
              rw [hkn, HZ.out, HDA.out _ (Nat.le_refl _), List.take_length] at this; exact this
            have e : ok = true := by rw [HOK.out, hall, ← HZ.out]; simp; omega
            exact ⟨e, by rw [HNN.out, e, hkn, HZ.out]; rfl⟩
          generalize numTo l k = q at *
          subst hkn
          go_wp2
          go_ret2
          exact ⟨by rw [HF.out.1, HF.out.2]; rfl, rfl⟩
end Go.Proofs.YtalaldfgjgpacaaGreatDoor

namespace Go.Proofs.YtalaldfgjgpacaaGreatDoor
set_option linter.unusedVariables false
set_option linter.unusedSimpArgs false
open Go.RowKit
attribute [local go_sem ↓] Go.wp_at_zero Go.wp_at_succ run_load63 run_store63
attribute [local go_sem] blkOf_mk offOf_mk isPt_mk isRow_pc Has_drew HasW_drew rowOf_drew

/-- Behind a call nothing but the replica's own row is changed, and that holds q. -/
def RepTo (b me n : Nat) (q : Pc) (y : Ext) (w w' : World) : Prop := w'.heap[b]? = some (.cells (repArr me n q y) 69) ∧ Bx b w w'

theorem Tab.ne {P : Program} {w : World} {b me n : Nat} {p : Pc} {x : Ext} {t : TypeId} (h : Tab P w) (hb : w.heap[b]? = some (.cells (repArr me n p x) t)) : ∀ g, P.globalNamed "internal/strconv.uint64pow10" = some g → g ≠ b := by
  rintro g hg rfl
  unfold Tab Lib.TabIs World.var? at h
  rw [hg] at h
  simp only [Option.bind_some] at h
  rw [hb] at h
  simp only [Option.some.injEq] at h
  have := congrArg Array.size h
  rw [repArr_size] at this
  revert this
  decide
theorem Tab.bx {P : Program} {w w' : World} {b me n : Nat} {p : Pc} {x : Ext} {t : TypeId} (h : Tab P w) (hb : w.heap[b]? = some (.cells (repArr me n p x) t)) (hx : Bx b w w') : Tab P w' :=
  h.on fun g hg => hx.block g (h.lt g hg) (h.ne hb g hg)

/-- What a delta makes of what stands beside. -/
def Ext.take (x : Ext) (q : Pc) : Ext := { x with had := x.had + 1, log := x.log ++ frameL ([68] ++ q.text) }
def Ext.rem (x : Ext) (q : Pc) : Ext := { x with late := q :: x.late }
def Ext.next (x : Ext) (q : Pc) : Ext := { x with had := x.had + 1, log := x.log ++ frameL ([68] ++ q.text), late := q :: x.late }
theorem take_rem (x : Ext) (q : Pc) : (x.take q).rem q = x.next q := rfl

theorem Blw.bk' {a w : World} (h : Blw a w) {b : Nat} {o : Obj} (hb : a.heap[b]? = some o) : w.heap[b]? = some o := (h.bk b (lt_of_blk hb)).trans hb

/-- Bounds. -/
structure Ext.small (x : Ext) : Prop where
  h : x.had ≤ 1000000000
  l : x.log.length ≤ 1000000000000

theorem Bx.sc {b : Nat} {a w : World} (h : Bx b a w) (o : Nat) (v : Value) : Bx b a (w.setCell ⟨b, o, none⟩ v) := h.scs o [v]

theorem rep_put_had {w : World} {b me n : Nat} {p : Pc} {x : Ext} {t : TypeId} (h : w.heap[b]? = some (.cells (repArr me n p x) t)) (v : Nat) : (w.setCell ⟨b, 137, none⟩ (.int .i64 v)).heap[b]? = some (.cells (repArr me n p { x with had := v }) t) := by
  rw [heap_setCell_self h, ← rep_set (xt := x) me n p { x with had := v } 0 _ (by omega) rfl]
theorem rep_put_log {w : World} {b me n : Nat} {p : Pc} {x : Ext} {t : TypeId} (h : w.heap[b]? = some (.cells (repArr me n p x) t)) (l : Bs) : (w.setCell ⟨b, 138, none⟩ (.string ⟨l.toArray⟩)).heap[b]? = some (.cells (repArr me n p { x with log := l }) t) := by
  rw [heap_setCell_self h, ← rep_set (xt := x) me n p { x with log := l } 1 _ (by omega) rfl]

set_option maxRecDepth 100000 in
set_option maxHeartbeats 2000000 in
theorem takeIn_any (b me n : Nat) (p q : Pc) (x : Ext) (w : World) (hq : q.ok) (hx : x.small) (ht : Tab Tryz.prog w) (h : w.heap[b]? = some (.cells (repArr me n p x) 69)) :
    Calls Tryz.prog 78 #[.pointer (some ⟨b, 0, none⟩), .agg q.arr] w fun e w' => e = .returned (.tuple #[]) ∧ RepTo b me n (p.join q) (x.take q) w w' := by
  have hbl := lt_of_blk h
  have H := hid h
  have H1 := hid (hp_old (.cells q.arr 65) hbl h)
  have H2 := hid (hp_new w (.cells q.arr 65))
  have hrow := rowOf_rep H1.out
  have hhas := Has_rep H1.out
  have hrow2 := rowOf_pc H2.out
  have hhas2 := Has_pc H2.out
  have HJ := hid (fun wx => join_any p q wx)
  have hz : b < w.heap.size + 1 := by omega
  have hne : b ≠ w.heap.size := by omega
  have HQ := hid (fun wx hw => deltaFrame_any q hq wx hw)
  have TB := hid ht
  have hx1 := hx.h
  have hx2 := hx.l
  have hfl := frameL_len ([68] ++ q.text)
  have htl := text_len' q hq
  have HN : Hid (x.take q = { x with had := x.had + 1, log := x.log ++ frameL ([68] ++ q.text) }) := rfl
  generalize frameL ([68] ++ q.text) = fr at *
  have hfr : fr.length ≤ 300 := by rw [hfl]; simp; omega
  clear h ht hx hfl htl hq
  go_enter Tryz.func78, Tryz.ntmps78
  go_wp2
  go_cut [3] (fun s w' => s = .pointer (some ⟨w.heap.size, 0, none⟩) ∧ w'.heap[w.heap.size]? = some (.cells q.arr 65) ∧ RepTo b me n (p.join q) x w w')
  case first =>
    go_region_with (first | (go_at_call 74; refine (HJ.out _).mono ?_; rintro e w1 ⟨rfl, b1⟩; have hw1 := HasW_rep ((b1.bk b (by simp; omega)).trans H1.out)))
    all_goals
      go_wp2_with fail
      go_meet
      case rel => exact ⟨rfl, by rw [put_ne (fun e => hne e.symm)]; exact (b1.bk w.heap.size (by simp)).trans H2.out, put_rep ((b1.bk b (by simp; omega)).trans H1.out), put_bx (Blw.bx (Blw.tr ((Blw.rfl _).al _) (Blw.tr (Blw.dr (Blw.rfl _)) b1)) b) _ _⟩
  case rest =>
    obtain ⟨rfl, g1, g2, g3⟩ := hcut
    have c3 := rep_had g2
    have f3 := blk_frozen g2 137
    have k1 := hid (rep_put_had g2 (x.had + 1))
    have k2 := hid ((Below.heap_setCell wc ⟨b, 137, none⟩ (.int .i64 ((x.had + 1 : Nat) : Int)) w.heap.size (fun e => hne e.symm)).trans g1)
    have k3 := hid (g3.sc 137 (.int .i64 ((x.had + 1 : Nat) : Int)))
    have HE : Hid ((((x.had + 1 : Nat)) : Int) = (x.had : Int) + 1) := by show (((x.had + 1 : Nat)) : Int) = _; omega
    rw [HE.out] at k1 k2 k3
    clear g1 g2 g3 hrow hhas hrow2 hhas2
    go_wp2
    generalize wc.setCell ⟨b, 137, none⟩ (.int .i64 ((x.had : Int) + 1)) = w3 at *
    clear c3 f3
    have T3 := hid (TB.out.bx H.out k3.out)
    have hrow := rowOf_pc k2.out
    have hhas := Has_pc k2.out
    have c4 := rep_log k1.out
    have HL := hid (ByteArray.mk_append_mk x.log fr)
    simp only [] at c4
    go_region_with (first | (go_at_call 131; refine (HQ.out _ (T3.out.blw (Blw.dr (Blw.rfl _)))).mono ?_; rintro e w4 ⟨rfl, b4⟩; have c5 := rep_log (b4.bk' (show w3.drew.heap[b]? = _ from k1.out)); have f5 := blk_frozen (b4.bk' (show w3.drew.heap[b]? = _ from k1.out)) 138))
    all_goals
      go_end0
      refine ⟨rfl, ?_, ?_⟩
      · rw [HN.out]
        have := rep_put_log (b4.bk' (show w3.drew.heap[b]? = _ from k1.out)) (x.log ++ fr)
        rw [← HL.out] at this
        exact this
      · exact (k3.out.tr (Blw.bx (Blw.tr (Blw.dr (Blw.rfl _)) b4) b)).sc _ _
variable {xt : Ext}

set_option maxRecDepth 100000 in
set_option maxHeartbeats 400000 in
theorem putEvent_no (b me n : Nat) (p q : Pc) (s : ByteArray) (c it v : Int) (w : World) (hn : n ≤ 3) (hs : s.size ≤ maxLen) (h : w.heap[b]? = some (.cells (repArr me n p xt) 69)) (hE : evErr me n p s.data.toList ≠ 0) :
    Calls Tryz.prog 89 #[.pointer (some ⟨b, 0, none⟩), .string s, .agg q.arr, .agg #[.int .i64 c, .int .i64 it, .int .i64 v]] w fun e w' => e = .returned (.tuple #[.string ⟨#[]⟩, .int .i64 (evErr me n p s.data.toList)]) ∧ Blw w w' := by
  have hbl := lt_of_blk h
  have HC := hid (checkEvent_any b me n p s ((w.alloc (.cells q.arr 65)).alloc (.cells #[.int .i64 c, .int .i64 it, .int .i64 v] 59)) hn hs (hp_old _ (by simp; omega) (hp_old _ hbl h)))
  generalize evErr me n p s.data.toList = ee at *
  have he : (ee != 0) = true := by simp [hE]
  clear hE h
  go_enter Tryz.func89, Tryz.ntmps89
  go_wp2_with fail
  refine HC.out.mono ?_
  rintro e w0 ⟨rfl, b0⟩
  go_wp2
  go_ret2
  exact ⟨rfl, Blw.tr (((Blw.rfl _).al _).al _) b0⟩

end Go.Proofs.YtalaldfgjgpacaaGreatDoor
