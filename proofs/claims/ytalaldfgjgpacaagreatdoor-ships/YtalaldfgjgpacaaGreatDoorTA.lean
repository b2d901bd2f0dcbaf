import Derived.Test.YtalaldfgjgpacaaGreatDoorHD
import Derived.Test.YtalaldfgjgpacaaGreatDoorP1
import Derived.BigQuiet
import Derived.Deep.RegionWith
namespace Go.Proofs.YtalaldfgjgpacaaGreatDoor
set_option linter.unusedVariables false
set_option linter.unusedSimpArgs false
open Go.RowKit
attribute [local go_sem ↓] Go.wp_at_zero Go.wp_at_succ

set_option maxHeartbeats 1000000 in
theorem readReplica_any (c : UInt8) (w : World) :
    Calls Tryz.prog 126 #[.string ⟨#[c]⟩] w fun e w' => e = .returned (.tuple #[.int .i64 ((if isRepB c then c.toNat - 48 else 0 : Nat) : Int), .bool (isRepB c)]) ∧ w' = w := by
  have HD := hid (fun wx => dread_any [c] wx (by simp))
  have e1 : okD [c] = isDigB c := by simp [okD]
  have e2 : numTo [c] [c].length = c.toNat - 48 := by simp [numTo]
  rw [e1, e2] at HD
  have HD' : Hid (∀ wx, Calls Tryz.prog 127 #[.string ⟨#[c]⟩] wx fun e w' => e = .returned (.tuple #[.int .i64 ((if isDigB c then c.toNat - 48 else 0 : Nat) : Int), .bool (isDigB c)]) ∧ w' = wx) := HD
  clear HD e1 e2
  obtain ⟨rp, hrp⟩ : ∃ rp, rp = isRepB c := ⟨_, rfl⟩
  obtain ⟨v, hv⟩ : ∃ v : Nat, v = if isRepB c then c.toNat - 48 else 0 := ⟨_, rfl⟩
  rw [← hrp] at hv ⊢
  rw [← hv]
  have HV := hid hv
  have HRP := hid hrp
  have DR : Hid (isRepB c = true ↔ 48 ≤ c.toNat ∧ c.toNat < 51) := isRepB_iff c
  have DD : Hid (isDigB c = true ↔ 48 ≤ c.toNat ∧ c.toNat ≤ 57) := isDigB_iff c
  clear hv hrp
  cases hd : isDigB c
  · have HE : Hid (rp = false ∧ v = 0) := by
      have h1 : rp = false := by
        cases h : rp
        · rfl
        · have := DR.out.1 (by rw [← HRP.out]; exact h)
          have := DD.out.2 ⟨this.1, by omega⟩
          rw [hd] at this; cases this
      exact ⟨h1, by rw [HV.out, h1]; rfl⟩
    rw [hd] at HD'
    go_enter Tryz.func126, Tryz.ntmps126
    go_wp2_with fail
    refine (HD'.out _).mono ?_
    rintro e w1 ⟨rfl, hw1⟩
    subst w1
    go_wp2
    go_ret2
    exact ⟨by rw [HE.out.1, HE.out.2]; rfl, rfl⟩
  · rw [hd] at HD'
    have h57 := DD.out.1 hd
    simp only [if_true] at HD'
    obtain ⟨k, hk⟩ : ∃ k, k = c.toNat - 48 := ⟨_, rfl⟩
    rw [← hk] at HD'
    have hk10 : k < 10 := by omega
    by_cases h3 : 3 ≤ k
    · have HE : Hid (rp = false ∧ v = 0) := by
        have h1 : rp = false := by
          cases h : rp
          · rfl
          · have := DR.out.1 (by rw [← HRP.out]; exact h)
            omega
        exact ⟨h1, by rw [HV.out, h1]; rfl⟩
      have g3 : (3 : Int) ≤ (k : Int) := by omega
      clear hk h57 hd
      go_enter Tryz.func126, Tryz.ntmps126
      go_wp2_with fail
      refine (HD'.out _).mono ?_
      rintro e w1 ⟨rfl, hw1⟩
      subst w1
      go_wp2
      go_ret2
      exact ⟨by rw [HE.out.1, HE.out.2]; rfl, rfl⟩
    · have HE : Hid (rp = true ∧ v = k) := by
        have h1 : rp = true := by rw [HRP.out]; exact DR.out.2 (by omega)
        exact ⟨h1, by rw [HV.out, h1, hk]; rfl⟩
      have g3 : ¬ (3 : Int) ≤ (k : Int) := by omega
      clear hk h57 hd
      go_enter Tryz.func126, Tryz.ntmps126
      go_wp2_with fail
      refine (HD'.out _).mono ?_
      rintro e w1 ⟨rfl, hw1⟩
      subst w1
      go_wp2
      go_ret2
      exact ⟨by rw [HE.out.1, HE.out.2]; rfl, rfl⟩

/-- A head's row. -/
def headArr (k : Bs) (f t c : Nat) : Array Value := #[.string ⟨k.toArray⟩, .int .i64 f, .int .i64 t, .int .i64 c]

set_option maxRecDepth 100000 in
set_option maxHeartbeats 2000000 in
theorem headText_any (k : UInt8) (f t c : Nat) (w : World) (hf : f < 10) (ht : t < 10) (hc : c < 100) :
    Calls Tryz.prog 34 #[.agg (headArr [k] f t c)] w fun e w' => e = .returned (.string ⟨[k, dig f, dig t, dig (c / 10), dig (c % 10)].toArray⟩) ∧ Blw w w' := by
  have H1 := hid (fun wx => itoa_digit f hf wx)
  have H2 := hid (fun wx => itoa_digit t ht wx)
  have H3 := hid (fun wx => two_any c wx hc)
  have e1 : (ByteArray.mk [k].toArray ++ ByteArray.mk #[dig f]) = ByteArray.mk [k, dig f].toArray := ByteArray.mk_append_mk [k] [dig f]
  have e2 : (ByteArray.mk [k, dig f].toArray ++ ByteArray.mk #[dig t]) = ByteArray.mk [k, dig f, dig t].toArray := ByteArray.mk_append_mk [k, dig f] [dig t]
  have e3 : (ByteArray.mk [k, dig f, dig t].toArray ++ ByteArray.mk #[dig (c / 10), dig (c % 10)]) = ByteArray.mk [k, dig f, dig t, dig (c / 10), dig (c % 10)].toArray := ByteArray.mk_append_mk [k, dig f, dig t] [dig (c / 10), dig (c % 10)]
  have E := hid (And.intro e1 (And.intro e2 e3))
  have BX : Hid (Blw w (w.alloc (.cells (headArr [k] f t c) 71))) := (Blw.rfl _).al _
  clear e1 e2 e3
  unfold headArr at *
  go_enter Tryz.func34, Tryz.ntmps34
  go_wp2_with fail
  refine (H1.out _).mono ?_
  rintro e w1 ⟨rfl, hw1⟩
  subst w1
  go_wp2_with fail
  refine (H2.out _).mono ?_
  rintro e w1 ⟨rfl, hw1⟩
  subst w1
  go_wp2_with fail
  refine (H3.out _).mono ?_
  rintro e w1 ⟨rfl, hw1⟩
  subst w1
  obtain ⟨e1, e2, e3⟩ := E.out
  go_wp2
  go_ret
  refine ⟨?_, BX.out⟩
  exact congrArg (fun b => Ending.returned (.string b)) ((congrArg (· ++ ByteArray.mk #[dig (c / 10), dig (c % 10)]) ((congrArg (· ++ ByteArray.mk #[dig t]) e1).trans e2)).trans e3)

/-- Whether five bytes are a head's. -/
def hdOk (c1 c2 c3 c4 : UInt8) : Bool := isRepB c1 && (isRepB c2 && (isDigB c3 && isDigB c4))

set_option maxRecDepth 100000 in
set_option maxHeartbeats 4000000 in
theorem readHead_any (c0 c1 c2 c3 c4 : UInt8) (ok : Bool) (hd : Array Value) (w : World) (hok : ok = hdOk c1 c2 c3 c4) (hhd : hd = if ok then headArr [c0] (c1.toNat - 48) (c2.toNat - 48) ((c3.toNat - 48) * 10 + (c4.toNat - 48)) else headArr [] 0 0 0) :
    Calls Tryz.prog 70 #[.string ⟨#[c0, c1, c2, c3, c4]⟩] w fun e w' => e = .returned (.tuple #[.agg hd, .bool ok]) ∧ Blw w w' := by
  obtain ⟨y, hy⟩ : ∃ y : ByteArray, y = ⟨#[c0, c1, c2, c3, c4]⟩ := ⟨_, rfl⟩
  have hys : y.size = 5 := by rw [hy]; rfl
  have HX0 : Hid (y.extract 0 1 = ⟨#[c0]⟩) := by rw [hy]; exact bs_extract [c0, c1, c2, c3, c4] 0 1
  have HX1 : Hid (y.extract 1 2 = ⟨#[c1]⟩) := by rw [hy]; exact bs_extract [c0, c1, c2, c3, c4] 1 2
  have HX2 : Hid (y.extract 2 3 = ⟨#[c2]⟩) := by rw [hy]; exact bs_extract [c0, c1, c2, c3, c4] 2 3
  have HX3 : Hid (y.extract 3 5 = ⟨#[c3, c4]⟩) := by rw [hy]; exact bs_extract [c0, c1, c2, c3, c4] 3 5
  have HR1 := hid (fun wx => readReplica_any c1 wx)
  have HR2 := hid (fun wx => readReplica_any c2 wx)
  have HD := hid (fun wx => dread_any [c3, c4] wx (by simp))
  have e1 : okD [c3, c4] = (isDigB c3 && isDigB c4) := by simp [okD]
  have e2 : numTo [c3, c4] [c3, c4].length = (c3.toNat - 48) * 10 + (c4.toNat - 48) := by simp [numTo]
  rw [e1, e2] at HD
  have HD' : Hid (∀ wx, Calls Tryz.prog 127 #[.string ⟨#[c3, c4]⟩] wx fun e w' => e = .returned (.tuple #[.int .i64 ((if isDigB c3 && isDigB c4 then (c3.toNat - 48) * 10 + (c4.toNat - 48) else 0 : Nat) : Int), .bool (isDigB c3 && isDigB c4)]) ∧ w' = wx) := HD
  rw [← hy]
  have HOK := hid hok
  have HHD := hid hhd
  have HOD : Hid (hdOk c1 c2 c3 c4 = (isRepB c1 && (isRepB c2 && (isDigB c3 && isDigB c4)))) := rfl
  have bb := c3.toNat_lt
  have bc := c4.toNat_lt
  have bd := c1.toNat_lt
  have be := c2.toNat_lt
  clear hy e1 e2 HD hok hhd
  unfold headArr at HHD
  generalize (isDigB c3 && isDigB c4) = dg at *
  generalize (c3.toNat - 48) * 10 + (c4.toNat - 48) = cnt at *
  generalize c1.toNat - 48 = fr at *
  generalize c2.toNat - 48 = tt at *
  have NO : Hid (ok = false → hd = #[.string ⟨#[]⟩, .int .i64 0, .int .i64 0, .int .i64 0]) := by
    intro h; rw [HHD.out, h]; rfl
  cases h1 : isRepB c1
  · have E : Hid (ok = false) := by show _ = _; rw [HOK.out, HOD.out, h1]; rfl
    rw [h1] at HR1
    go_enter Tryz.func70, Tryz.ntmps70
    go_wp2_with fail
    rw [HX1.out]
    refine (HR1.out _).mono ?_
    rintro e w1 ⟨rfl, hw1⟩
    subst w1
    go_wp2
    exact bodyPost_ret (v := .tuple #[.agg #[.string ⟨#[]⟩, .int .i64 0, .int .i64 0, .int .i64 0], .bool false]) (by simp [results, Tryz.results70, go_sem]) rfl ⟨by rw [E.out, NO.out E.out], (Blw.rfl _).al _⟩
  · rw [h1] at HR1
    simp only [if_true] at HR1
    cases h2 : isRepB c2
    · have E : Hid (ok = false) := by show _ = _; rw [HOK.out, HOD.out, h1, h2]; rfl
      rw [h2] at HR2
      go_enter Tryz.func70, Tryz.ntmps70
      go_wp2_with fail
      rw [HX1.out]
      refine (HR1.out _).mono ?_
      rintro e w1 ⟨rfl, hw1⟩
      subst w1
      go_wp2_with fail
      rw [HX2.out]
      refine (HR2.out _).mono ?_
      rintro e w1 ⟨rfl, hw1⟩
      subst w1
      go_wp2
      exact bodyPost_ret (v := .tuple #[.agg #[.string ⟨#[]⟩, .int .i64 0, .int .i64 0, .int .i64 0], .bool false]) (by simp [results, Tryz.results70, go_sem]) rfl ⟨by rw [E.out, NO.out E.out], (Blw.rfl _).al _⟩
    · rw [h2] at HR2
      simp only [if_true] at HR2
      cases dg
      · have E : Hid (ok = false) := by show _ = _; rw [HOK.out, HOD.out, h1, h2]; rfl
        go_enter Tryz.func70, Tryz.ntmps70
        go_wp2_with fail
        rw [HX1.out]
        refine (HR1.out _).mono ?_
        rintro e w1 ⟨rfl, hw1⟩
        subst w1
        go_wp2_with fail
        rw [HX2.out]
        refine (HR2.out _).mono ?_
        rintro e w1 ⟨rfl, hw1⟩
        subst w1
        go_wp2_with fail
        rw [HX3.out]
        refine (HD'.out _).mono ?_
        rintro e w1 ⟨rfl, hw1⟩
        subst w1
        go_wp2
        exact bodyPost_ret (v := .tuple #[.agg #[.string ⟨#[]⟩, .int .i64 0, .int .i64 0, .int .i64 0], .bool false]) (by simp [results, Tryz.results70, go_sem]) rfl ⟨by rw [E.out, NO.out E.out], (Blw.rfl _).al _⟩
      · have E : Hid (ok = true) := by show _ = _; rw [HOK.out, HOD.out, h1, h2]; rfl
        have EH : Hid (hd = #[.string ⟨#[c0]⟩, .int .i64 fr, .int .i64 tt, .int .i64 cnt]) := by show _ = _; rw [HHD.out, E.out]; rfl
        simp only [if_true] at HD'
        go_enter Tryz.func70, Tryz.ntmps70
        go_wp2_with fail
        rw [HX1.out]
        refine (HR1.out _).mono ?_
        rintro e w1 ⟨rfl, hw1⟩
        subst w1
        go_wp2_with fail
        rw [HX2.out]
        refine (HR2.out _).mono ?_
        rintro e w1 ⟨rfl, hw1⟩
        subst w1
        go_wp2_with fail
        rw [HX3.out]
        refine (HD'.out _).mono ?_
        rintro e w1 ⟨rfl, hw1⟩
        subst w1
        go_wp2_with (rw [HX0.out])
        exact bodyPost_ret (v := .tuple #[.agg #[.string ⟨#[c0]⟩, .int .i64 fr, .int .i64 tt, .int .i64 cnt], .bool true]) (by simp [results, Tryz.results70, go_sem]) rfl ⟨by rw [E.out, EH.out], (Blw.rfl _).al _⟩

end Go.Proofs.YtalaldfgjgpacaaGreatDoor

namespace Go.Proofs.YtalaldfgjgpacaaGreatDoor
set_option linter.unusedVariables false
set_option linter.unusedSimpArgs false
open Go.RowKit
attribute [local go_sem ↓] Go.wp_at_zero Go.wp_at_succ

/-- Whether a head goes here, from another of the cluster. -/
def forMe (me n f t : Nat) : Bool := decide (t = me) && (decide (f ≠ me) && decide (f < n))

/-- Whether the cluster has such a replica, another one. -/
def isOth (me n : Nat) (r : Int) : Bool := decide (0 ≤ r) && (decide (r < n) && decide (r ≠ me))

set_option maxRecDepth 100000 in
set_option maxHeartbeats 2000000 in
theorem isOther_any (b me n : Nat) (r : Int) (p : Pc) (x : Ext) (w : World) (h : w.heap[b]? = some (.cells (repArr me n p x) 69)) :
    Calls Tryz.prog 72 #[.pointer (some ⟨b, 0, none⟩), .int .i64 r] w fun e w' => e = .returned (.bool (isOth me n r)) ∧ w' = w := by
  have q0 : w.cell? ⟨b, 0, none⟩ = some (.int .i64 me) := blk_cell h 0
  have q1 : w.cell? ⟨b, 1, none⟩ = some (.int .i64 n) := blk_cell h 1
  obtain ⟨o, ho⟩ : ∃ o, o = isOth me n r := ⟨_, rfl⟩
  rw [← ho]
  have HO := hid ho
  clear h ho
  by_cases h1 : 0 ≤ r
  · have d1 : decide (0 ≤ r) = true := by simpa using h1
    by_cases h2 : r < n
    · have d2 : decide (r < (n : Int)) = true := by simpa using h2
      by_cases h3 : r = me
      · have d3 : (r == (me : Int)) = true := by simpa using h3
        have d4 : (r != (me : Int)) = false := by rw [bne, d3]; rfl
        have E : Hid (o = false) := by show _ = _; rw [HO.out]; simp [isOth, h3]
        clear h1 h2 h3
        go_enter Tryz.func72, Tryz.ntmps72
        go_wp2
        go_ret
        exact ⟨by rw [E.out]; rfl, rfl⟩
      · have d3 : (r == (me : Int)) = false := by simpa using h3
        have d4 : (r != (me : Int)) = true := by rw [bne, d3]; rfl
        have E : Hid (o = true) := by show _ = _; rw [HO.out]; simp [isOth, h1, h2, h3]
        clear h1 h2 h3
        go_enter Tryz.func72, Tryz.ntmps72
        go_wp2
        go_ret
        exact ⟨by rw [E.out]; rfl, rfl⟩
    · have d2 : decide (r < (n : Int)) = false := by simpa using h2
      have E : Hid (o = false) := by show _ = _; rw [HO.out]; simp [isOth, h2]
      clear h1 h2
      go_enter Tryz.func72, Tryz.ntmps72
      go_wp2
      go_ret
      exact ⟨by rw [E.out]; rfl, rfl⟩
  · have d1 : decide (0 ≤ r) = false := by simpa using h1
    have E : Hid (o = false) := by show _ = _; rw [HO.out]; simp [isOth, h1]
    clear h1
    go_enter Tryz.func72, Tryz.ntmps72
    go_wp2
    go_ret
    exact ⟨by rw [E.out]; rfl, rfl⟩

theorem isOth_nat (me n f : Nat) : isOth me n (f : Int) = (decide (f ≠ me) && decide (f < n)) := by
  by_cases h1 : f < n <;> by_cases h2 : f = me <;> simp [isOth, h1, h2] <;> omega

set_option maxRecDepth 100000 in
set_option maxHeartbeats 2000000 in
theorem isForMe_any (b me n f t c : Nat) (k : Bs) (p : Pc) (x : Ext) (w : World) (h : w.heap[b]? = some (.cells (repArr me n p x) 69)) :
    Calls Tryz.prog 30 #[.pointer (some ⟨b, 0, none⟩), .agg (headArr k f t c)] w fun e w' => e = .returned (.bool (forMe me n f t)) ∧ Blw w w' := by
  have BX : Hid (Blw w (w.alloc (.cells (headArr k f t c) 71))) := (Blw.rfl _).al _
  have hb := BX.out.bk' h
  have HIO := hid (fun wx hw => isOther_any b me n (f : Int) p x wx hw)
  have HB := hid hb
  rw [isOth_nat] at HIO
  have q0 : (w.alloc (.cells (headArr k f t c) 71)).cell? ⟨b, 0, none⟩ = some (.int .i64 me) := blk_cell hb 0
  obtain ⟨r, hr⟩ : ∃ r, r = forMe me n f t := ⟨_, rfl⟩
  rw [← hr]
  have HR := hid hr
  unfold headArr at *
  clear h hb hr
  by_cases h1 : t = me
  · have g1 : ((t : Int) == (me : Int)) = true := by rw [beq_iff_eq]; omega
    have HT : Hid (r = (decide (f ≠ me) && decide (f < n))) := by show _ = _; rw [HR.out]; simp [forMe, h1]
    generalize (decide (f ≠ me) && decide (f < n)) = o at *
    clear h1 HR
    go_enter Tryz.func30, Tryz.ntmps30
    go_wp2_with fail
    go_region_with (first | (go_at_call 72; refine (HIO.out _ (show (w.alloc _).drew.heap[b]? = _ from HB.out)).mono ?_; rintro e w1 ⟨rfl, hw1⟩; subst w1))
    all_goals
      go_wp2
      go_ret
      exact ⟨by rw [HT.out]; rfl, by first | exact BX.out.drn _ | exact BX.out.dr | exact BX.out⟩
  · have g1 : ((t : Int) == (me : Int)) = false := by rw [beq_eq_false_iff_ne]; omega
    have HT : Hid (r = false) := by show _ = _; rw [HR.out]; simp [forMe, h1]
    clear h1
    go_enter Tryz.func30, Tryz.ntmps30
    go_wp2_with fail
    go_quiet (fail)
    go_wp2
    go_ret
    exact ⟨by rw [HT.out]; rfl, BX.out.drn _⟩
end Go.Proofs.YtalaldfgjgpacaaGreatDoor
