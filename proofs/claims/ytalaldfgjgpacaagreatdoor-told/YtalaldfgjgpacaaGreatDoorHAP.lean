import Derived.Test.YtalaldfgjgpacaaGreatDoorHAI
import Derived.Test.YtalaldfgjgpacaaGreatDoorHAO
import Derived.BigQuiet
import Derived.Deep.RegionWith
namespace Go.Proofs.YtalaldfgjgpacaaGreatDoor
set_option linter.unusedVariables false
set_option linter.unusedSimpArgs false
open Go.RowKit
attribute [local go_sem ↓] Go.wp_at_zero Go.wp_at_succ

set_option maxHeartbeats 1000000 in
theorem readReplica_any (c : UInt8) (w : World) :
    Calls Tryz.prog 126 #[.string ⟨#[c]⟩] w fun e w' => e = .returned (.tuple #[.int .i64 ((if isRepB c then c.toNat - 48 else 0 : Nat) : Int), .bool (isRepB c)]) ∧ w' = w := by
  have HD := hid (fun wx => dread_any [c] wx (by simp))
  have e1 : okD [c] = isDigB c := by simp [okD]
  have e2 : numTo [c] [c].length = c.toNat - 48 := by simp [numTo]
  rw [e1, e2] at HD
  have HD' : Hid (∀ wx, Calls Tryz.prog 127 #[.string ⟨#[c]⟩] wx fun e w' => e = .returned (.tuple #[.int .i64 ((if isDigB c then c.toNat - 48 else 0 : Nat) : Int), .bool (isDigB c)]) ∧ w' = wx) := HD
  clear HD e1 e2
  obtain ⟨rp, hrp⟩ : ∃ rp, rp = isRepB c := ⟨_, rfl⟩
  obtain ⟨v, hv⟩ : ∃ v : Nat, v = if isRepB c then c.toNat - 48 else 0 := ⟨_, rfl⟩
  rw [← hrp] at hv ⊢
  rw [← hv]
  have HV := hid hv
  have HRP := hid hrp
  have DR : Hid (isRepB c = true ↔ 48 ≤ c.toNat ∧ c.toNat < 51) := isRepB_iff c
  have DD : Hid (isDigB c = true ↔ 48 ≤ c.toNat ∧ c.toNat ≤ 57) := isDigB_iff c
  clear hv hrp
  cases hd : isDigB c
  · have HE : Hid (rp = false ∧ v = 0) := by
      have h1 : rp = false := by
        cases h : rp
        · rfl
        · have := DR.out.1 (by rw [← HRP.out]; exact h)
          have := DD.out.2 ⟨this.1, by omega⟩
          rw [hd] at this; cases this
      exact ⟨h1, by rw [HV.out, h1]; rfl⟩
    rw [hd] at HD'
    go_enter Tryz.func126, Tryz.ntmps126
    go_wp2_with fail
    refine (HD'.out _).mono ?_
    rintro e w1 ⟨rfl, hw1⟩
    subst w1
    go_wp2
    go_ret2
    exact ⟨by rw [HE.out.1, HE.out.2]; rfl, rfl⟩
  · rw [hd] at HD'
    have h57 := DD.out.1 hd
    simp only [if_true] at HD'
    obtain ⟨k, hk⟩ : ∃ k, k = c.toNat - 48 := ⟨_, rfl⟩
    rw [← hk] at HD'
    have hk10 : k < 10 := by omega
    by_cases h3 : 3 ≤ k
    · have HE : Hid (rp = false ∧ v = 0) := by
        have h1 : rp = false := by
          cases h : rp
          · rfl
          · have := DR.out.1 (by rw [← HRP.out]; exact h)
            omega
        exact ⟨h1, by rw [HV.out, h1]; rfl⟩
      have g3 : (3 : Int) ≤ (k : Int) := by omega
      clear hk h57 hd
      go_enter Tryz.func126, Tryz.ntmps126
      go_wp2_with fail
      refine (HD'.out _).mono ?_
      rintro e w1 ⟨rfl, hw1⟩
      subst w1
      go_wp2
      go_ret2
      exact ⟨by rw [HE.out.1, HE.out.2]; rfl, rfl⟩
    · have HE : Hid (rp = true ∧ v = k) := by
        have h1 : rp = true := by rw [HRP.out]; exact DR.out.2 (by omega)
        exact ⟨h1, by rw [HV.out, h1, hk]; rfl⟩
      have g3 : ¬ (3 : Int) ≤ (k : Int) := by omega
      clear hk h57 hd
      go_enter Tryz.func126, Tryz.ntmps126
      go_wp2_with fail
      refine (HD'.out _).mono ?_
      rintro e w1 ⟨rfl, hw1⟩
      subst w1
      go_wp2
      go_ret2
      exact ⟨by rw [HE.out.1, HE.out.2]; rfl, rfl⟩

/-- A head's row. -/
def headArr (k : Bs) (f t c : Nat) : Array Value := #[.string ⟨k.toArray⟩, .int .i64 f, .int .i64 t, .int .i64 c]

set_option maxRecDepth 100000 in
set_option maxHeartbeats 2000000 in
theorem headText_any (k : UInt8) (f t c : Nat) (w : World) (hf : f < 10) (ht : t < 10) (hc : c < 100) :
    Calls Tryz.prog 34 #[.agg (headArr [k] f t c)] w fun e w' => e = .returned (.string ⟨[k, dig f, dig t, dig (c / 10), dig (c % 10)].toArray⟩) ∧ Blw w w' := by
  have H1 := hid (fun wx => itoa_digit f hf wx)
  have H2 := hid (fun wx => itoa_digit t ht wx)
  have H3 := hid (fun wx => two_any c wx hc)
  have e1 : (ByteArray.mk [k].toArray ++ ByteArray.mk #[dig f]) = ByteArray.mk [k, dig f].toArray := ByteArray.mk_append_mk [k] [dig f]
  have e2 : (ByteArray.mk [k, dig f].toArray ++ ByteArray.mk #[dig t]) = ByteArray.mk [k, dig f, dig t].toArray := ByteArray.mk_append_mk [k, dig f] [dig t]
  have e3 : (ByteArray.mk [k, dig f, dig t].toArray ++ ByteArray.mk #[dig (c / 10), dig (c % 10)]) = ByteArray.mk [k, dig f, dig t, dig (c / 10), dig (c % 10)].toArray := ByteArray.mk_append_mk [k, dig f, dig t] [dig (c / 10), dig (c % 10)]
  have E := hid (And.intro e1 (And.intro e2 e3))
  have BX : Hid (Blw w (w.alloc (.cells (headArr [k] f t c) 71))) := (Blw.rfl _).al _
  clear e1 e2 e3
  unfold headArr at *
  go_enter Tryz.func34, Tryz.ntmps34
  go_wp2_with fail
  refine (H1.out _).mono ?_
  rintro e w1 ⟨rfl, hw1⟩
  subst w1
  go_wp2_with fail
  refine (H2.out _).mono ?_
  rintro e w1 ⟨rfl, hw1⟩
  subst w1
  go_wp2_with fail
  refine (H3.out _).mono ?_
  rintro e w1 ⟨rfl, hw1⟩
  subst w1
  obtain ⟨e1, e2, e3⟩ := E.out
  go_wp2
  go_ret
  refine ⟨?_, BX.out⟩
  exact congrArg (fun b => Ending.returned (.string b)) ((congrArg (· ++ ByteArray.mk #[dig (c / 10), dig (c % 10)]) ((congrArg (· ++ ByteArray.mk #[dig t]) e1).trans e2)).trans e3)

/-- Whether five bytes are a head's. -/
def hdOk (c1 c2 c3 c4 : UInt8) : Bool := isRepB c1 && (isRepB c2 && (isDigB c3 && isDigB c4))

set_option maxRecDepth 100000 in
set_option maxHeartbeats 4000000 in
theorem readHead_any (c0 c1 c2 c3 c4 : UInt8) (ok : Bool) (hd : Array Value) (w : World) (hok : ok = hdOk c1 c2 c3 c4) (hhd : hd = if ok then headArr [c0] (c1.toNat - 48) (c2.toNat - 48) ((c3.toNat - 48) * 10 + (c4.toNat - 48)) else headArr [] 0 0 0) :
    Calls Tryz.prog 70 #[.string ⟨#[c0, c1, c2, c3, c4]⟩] w fun e w' => e = .returned (.tuple #[.agg hd, .bool ok]) ∧ Blw w w' := by
  obtain ⟨y, hy⟩ : ∃ y : ByteArray, y = ⟨#[c0, c1, c2, c3, c4]⟩ := ⟨_, rfl⟩
  have hys : y.size = 5 := by rw [hy]; rfl
  have HX0 : Hid (y.extract 0 1 = ⟨#[c0]⟩) := by rw [hy]; exact bs_extract [c0, c1, c2, c3, c4] 0 1
  have HX1 : Hid (y.extract 1 2 = ⟨#[c1]⟩) := by rw [hy]; exact bs_extract [c0, c1, c2, c3, c4] 1 2
  have HX2 : Hid (y.extract 2 3 = ⟨#[c2]⟩) := by rw [hy]; exact bs_extract [c0, c1, c2, c3, c4] 2 3
  have HX3 : Hid (y.extract 3 5 = ⟨#[c3, c4]⟩) := by rw [hy]; exact bs_extract [c0, c1, c2, c3, c4] 3 5
  have HR1 := hid (fun wx => readReplica_any c1 wx)
  have HR2 := hid (fun wx => readReplica_any c2 wx)
  have HD := hid (fun wx => dread_any [c3, c4] wx (by simp))
  have e1 : okD [c3, c4] = (isDigB c3 && isDigB c4) := by simp [okD]
  have e2 : numTo [c3, c4] [c3, c4].length = (c3.toNat - 48) * 10 + (c4.toNat - 48) := by simp [numTo]
  rw [e1, e2] at HD
  have HD' : Hid (∀ wx, Calls Tryz.prog 127 #[.string ⟨#[c3, c4]⟩] wx fun e w' => e = .returned (.tuple #[.int .i64 ((if isDigB c3 && isDigB c4 then (c3.toNat - 48) * 10 + (c4.toNat - 48) else 0 : Nat) : Int), .bool (isDigB c3 && isDigB c4)]) ∧ w' = wx) := HD
  rw [← hy]
  have HOK := hid hok
  have HHD := hid hhd
  have HOD : Hid (hdOk c1 c2 c3 c4 = (isRepB c1 && (isRepB c2 && (isDigB c3 && isDigB c4)))) := rfl
  have bb := c3.toNat_lt
  have bc := c4.toNat_lt
  have bd := c1.toNat_lt
  have be := c2.toNat_lt
  clear hy e1 e2 HD hok hhd
  unfold headArr at HHD
  generalize (isDigB c3 && isDigB c4) = dg at *
  generalize (c3.toNat - 48) * 10 + (c4.toNat - 48) = cnt at *
  generalize c1.toNat - 48 = fr at *
  generalize c2.toNat - 48 = tt at *
  have NO : Hid (ok = false → hd = #[.string ⟨#[]⟩, .int .i64 0, .int .i64 0, .int .i64 0]) := by
    intro h; rw [HHD.out, h]; rfl
  cases h1 : isRepB c1
  · have E : Hid (ok = false) := by show _ = _; rw [HOK.out, HOD.out, h1]; rfl
    rw [h1] at HR1
    go_enter Tryz.func70, Tryz.ntmps70
    go_wp2_with fail
    rw [HX1.out]
    refine (HR1.out _).mono ?_
    rintro e w1 ⟨rfl, hw1⟩
    subst w1
    go_wp2
    exact bodyPost_ret (v := .tuple #[.agg #[.string ⟨#[]⟩, .int .i64 0, .int .i64 0, .int .i64 0], .bool false]) (by simp [results, Tryz.results70, go_sem]) rfl ⟨by rw [E.out, NO.out E.out], (Blw.rfl _).al _⟩
  · rw [h1] at HR1
    simp only [if_true] at HR1
    cases h2 : isRepB c2
    · have E : Hid (ok = false) := by show _ = _; rw [HOK.out, HOD.out, h1, h2]; rfl
      rw [h2] at HR2
      go_enter Tryz.func70, Tryz.ntmps70
      go_wp2_with fail
      rw [HX1.out]
      refine (HR1.out _).mono ?_
      rintro e w1 ⟨rfl, hw1⟩
      subst w1
      go_wp2_with fail
      rw [HX2.out]
      refine (HR2.out _).mono ?_
      rintro e w1 ⟨rfl, hw1⟩
      subst w1
      go_wp2
      exact bodyPost_ret (v := .tuple #[.agg #[.string ⟨#[]⟩, .int .i64 0, .int .i64 0, .int .i64 0], .bool false]) (by simp [results, Tryz.results70, go_sem]) rfl ⟨by rw [E.out, NO.out E.out], (Blw.rfl _).al _⟩
    · rw [h2] at HR2
      simp only [if_true] at HR2
      cases dg
      · have E : Hid (ok = false) := by show _ = _; rw [HOK.out, HOD.out, h1, h2]; rfl
        go_enter Tryz.func70, Tryz.ntmps70
        go_wp2_with fail
        rw [HX1.out]
        refine (HR1.out _).mono ?_
        rintro e w1 ⟨rfl, hw1⟩
        subst w1
        go_wp2_with fail
        rw [HX2.out]
        refine (HR2.out _).mono ?_
        rintro e w1 ⟨rfl, hw1⟩
        subst w1
        go_wp2_with fail
        rw [HX3.out]
        refine (HD'.out _).mono ?_
        rintro e w1 ⟨rfl, hw1⟩
        subst w1
        go_wp2
        exact bodyPost_ret (v := .tuple #[.agg #[.string ⟨#[]⟩, .int .i64 0, .int .i64 0, .int .i64 0], .bool false]) (by simp [results, Tryz.results70, go_sem]) rfl ⟨by rw [E.out, NO.out E.out], (Blw.rfl _).al _⟩
      · have E : Hid (ok = true) := by show _ = _; rw [HOK.out, HOD.out, h1, h2]; rfl
        have EH : Hid (hd = #[.string ⟨#[c0]⟩, .int .i64 fr, .int .i64 tt, .int .i64 cnt]) := by show _ = _; rw [HHD.out, E.out]; rfl
        simp only [if_true] at HD'
        go_enter Tryz.func70, Tryz.ntmps70
        go_wp2_with fail
        rw [HX1.out]
        refine (HR1.out _).mono ?_
        rintro e w1 ⟨rfl, hw1⟩
        subst w1
        go_wp2_with fail
        rw [HX2.out]
        refine (HR2.out _).mono ?_
        rintro e w1 ⟨rfl, hw1⟩
        subst w1
        go_wp2_with fail
        rw [HX3.out]
        refine (HD'.out _).mono ?_
        rintro e w1 ⟨rfl, hw1⟩
        subst w1
        go_wp2_with (rw [HX0.out])
        exact bodyPost_ret (v := .tuple #[.agg #[.string ⟨#[c0]⟩, .int .i64 fr, .int .i64 tt, .int .i64 cnt], .bool true]) (by simp [results, Tryz.results70, go_sem]) rfl ⟨by rw [E.out, EH.out], (Blw.rfl _).al _⟩

end Go.Proofs.YtalaldfgjgpacaaGreatDoor

namespace Go.Proofs.YtalaldfgjgpacaaGreatDoor
set_option linter.unusedVariables false
set_option linter.unusedSimpArgs false
open Go.RowKit
attribute [local go_sem ↓] Go.wp_at_zero Go.wp_at_succ

/-- Is one of the first k signs of a token above what is known? -/
def staleK (ks : List Int) (l : Bs) : Nat → Bool
  | 0 => false
  | k + 1 => staleK ks l k || decide (ks.getD k 0 < ((l.getD k 0).toNat : Int) - 48)

theorem staleK_mono (ks : List Int) (l : Bs) (k : Nat) (h : staleK ks l k = true) : ∀ m, k ≤ m → staleK ks l m = true := by
  intro m
  induction m with
  | zero => intro hk; have : k = 0 := by omega
            subst this; exact h
  | succ m ih =>
    intro hk
    by_cases e : k = m + 1
    · subst e; exact h
    · rw [staleK, ih (by omega)]; rfl

theorem intsV_at {ks : List Int} {i : Nat} (h : i < ks.length) : (intsV ks)[i]? = some (.int .i64 (ks.getD i 0)) := by
  simp [intsV, h, List.getD]

set_option maxRecDepth 100000 in
set_option maxHeartbeats 1000000 in
theorem stale_at (cb kb g n r ck : Nat) (mode : Int) (ks : List Int) (ka : Array Value) (tk : TypeId) (X E W A T O : Value) (t : ByteArray) (w : World) (said : Bs) (err last : Int) (lg st : Bs) (old : Value) (n1 n2 n3 cl : Int) (tok : Bs) (hn : n ≤ 3) (hr : r < n) (ht : t.size ≤ n) (hdg : ∀ k (hk : k < t.size), 48 ≤ (t[k].toNat : Int) ∧ (t[k].toNat : Int) ≤ 57) (hks : ks.length = n)
    (hc : w.heap[cb]? = some (.cells (clA n mode X (.slice (some ⟨kb, 0, none⟩) n ck) E W A T O said err last lg st old n1 n2 n3 cl tok) 38))
    (hk : w.heap[kb]? = some (.cells ka tk)) (hkr : ka[r]? = some (.slice (some ⟨g, 0, none⟩) n n)) (hg : w.heap[g]? = some (.cells (intsV ks) 3)) :
    Calls Tryz.prog 122 #[.pointer (some ⟨cb, 0, none⟩), .string t, .int .i64 r] w fun e w' => e = .returned (.bool (staleK ks t.data.toList t.size)) ∧ Blw w w' := by
  have HC := hid hc
  have HK := hid hk
  have HKR := hid hkr
  have HG := hid hg
  have HKS := hid hks
  clear hc hk hkr hg hks
  have HALL := hid hdg
  have HZ := hid (show t.data.toList.length = t.size from Array.length_toList)
  clear hdg
  obtain ⟨an, han⟩ : ∃ an, an = staleK ks t.data.toList t.size := ⟨_, rfl⟩
  rw [← han]
  have HA := hid han
  clear han
  go_enter Tryz.func122, Tryz.ntmps122
  go_wp2
  go_loopw [7] (fun i wr => ∃ k : Nat, k ≤ t.size ∧ i = .int .i64 k ∧ staleK ks t.data.toList k = false ∧ Blw w wr) (fun i _ => t.size - (intOf i).toNat)
  case atStart => exact ⟨0, by omega, rfl, rfl, Blw.rfl _⟩
  case round =>
    obtain ⟨k, hk, rfl, hst, hb⟩ := hrel
    have HST := hid hst
    have HB := hid hb
    clear hst hb
    by_cases hlt : k < t.size
    · obtain ⟨g0, g1⟩ := HALL.out k hlt
      have c3 : wr.cell? ⟨cb, 3, none⟩ = some (.slice (some ⟨kb, 0, none⟩) n ck) := by rw [blk_cell (HB.out.bk' HC.out)]; rfl
      have k0 : wr.cell? ⟨kb, r, none⟩ = some (.slice (some ⟨g, 0, none⟩) n n) := by rw [blk_cell (HB.out.bk' HK.out)]; exact HKR.out
      have ci : wr.cell? ⟨g, k, none⟩ = some (.int .i64 (ks.getD k 0)) := by rw [blk_cell (HB.out.bk' HG.out)]; exact intsV_at (by rw [HKS.out]; omega)
      have HE : Hid (staleK ks t.data.toList (k + 1) = decide (ks.getD k 0 < (t[k].toNat : Int) - 48)) := by
        show staleK ks t.data.toList (k + 1) = _
        rw [staleK, HST.out]
        simp [List.getD, List.getElem?_eq_getElem (show k < t.data.toList.length by rw [HZ.out]; exact hlt)]
        rfl
      generalize ks.getD k 0 = d at *
      by_cases hgt : d < (t[k].toNat : Int) - 48
      · have HF : Hid (an = true) := by
          show an = true
          rw [HA.out]
          exact staleK_mono _ _ (k + 1) (by rw [HE.out]; exact decide_eq_true hgt) _ (by omega)
        go_wp2
        go_region
        go_wp2
        go_ret
        exact ⟨by rw [HF.out]; rfl, HB.out.dr⟩
      · go_wp2
        go_region
        go_wp2
        go_roundw
        case rel => exact ⟨k + 1, by omega, by go_num, by rw [HE.out]; exact decide_eq_false (by omega), HB.out.dr⟩
        case measure => simp [intOf]; omega
    · have hkn : k = t.size := by omega
      subst hkn
      go_wp2
      go_ret
      exact ⟨by rw [HA.out, HST.out]; rfl, HB.out⟩
end Go.Proofs.YtalaldfgjgpacaaGreatDoor

namespace Go.Proofs.YtalaldfgjgpacaaGreatDoor
set_option linter.unusedVariables false
set_option linter.unusedSimpArgs false
open Go.RowKit
attribute [local go_sem ↓] Go.wp_at_zero Go.wp_at_succ

/-- Whether a head goes here, from another of the cluster. -/
def forMe (me n f t : Nat) : Bool := decide (t = me) && (decide (f ≠ me) && decide (f < n))

/-- Whether the cluster has such a replica, another one. -/
def isOth (me n : Nat) (r : Int) : Bool := decide (0 ≤ r) && (decide (r < n) && decide (r ≠ me))

set_option maxRecDepth 100000 in
set_option maxHeartbeats 2000000 in
theorem isOther_any (b me n : Nat) (r : Int) (p : Pc) (x : Ext) (w : World) (h : w.heap[b]? = some (.cells (repArr me n p x) 69)) :
    Calls Tryz.prog 72 #[.pointer (some ⟨b, 0, none⟩), .int .i64 r] w fun e w' => e = .returned (.bool (isOth me n r)) ∧ w' = w := by
  have q0 : w.cell? ⟨b, 0, none⟩ = some (.int .i64 me) := blk_cell h 0
  have q1 : w.cell? ⟨b, 1, none⟩ = some (.int .i64 n) := blk_cell h 1
  obtain ⟨o, ho⟩ : ∃ o, o = isOth me n r := ⟨_, rfl⟩
  rw [← ho]
  have HO := hid ho
  clear h ho
  by_cases h1 : 0 ≤ r
  · have d1 : decide (0 ≤ r) = true := by simpa using h1
    by_cases h2 : r < n
    · have d2 : decide (r < (n : Int)) = true := by simpa using h2
      by_cases h3 : r = me
      · have d3 : (r == (me : Int)) = true := by simpa using h3
        have d4 : (r != (me : Int)) = false := by rw [bne, d3]; rfl
        have E : Hid (o = false) := by show _ = _; rw [HO.out]; simp [isOth, h3]
        clear h1 h2 h3
        go_enter Tryz.func72, Tryz.ntmps72
        go_wp2
        go_ret
        exact ⟨by rw [E.out]; rfl, rfl⟩
      · have d3 : (r == (me : Int)) = false := by simpa using h3
        have d4 : (r != (me : Int)) = true := by rw [bne, d3]; rfl
        have E : Hid (o = true) := by show _ = _; rw [HO.out]; simp [isOth, h1, h2, h3]
        clear h1 h2 h3
        go_enter Tryz.func72, Tryz.ntmps72
        go_wp2
        go_ret
        exact ⟨by rw [E.out]; rfl, rfl⟩
    · have d2 : decide (r < (n : Int)) = false := by simpa using h2
      have E : Hid (o = false) := by show _ = _; rw [HO.out]; simp [isOth, h2]
      clear h1 h2
      go_enter Tryz.func72, Tryz.ntmps72
      go_wp2
      go_ret
      exact ⟨by rw [E.out]; rfl, rfl⟩
  · have d1 : decide (0 ≤ r) = false := by simpa using h1
    have E : Hid (o = false) := by show _ = _; rw [HO.out]; simp [isOth, h1]
    clear h1
    go_enter Tryz.func72, Tryz.ntmps72
    go_wp2
    go_ret
    exact ⟨by rw [E.out]; rfl, rfl⟩

theorem isOth_nat (me n f : Nat) : isOth me n (f : Int) = (decide (f ≠ me) && decide (f < n)) := by
  by_cases h1 : f < n <;> by_cases h2 : f = me <;> simp [isOth, h1, h2] <;> omega

set_option maxRecDepth 100000 in
set_option maxHeartbeats 2000000 in
theorem isForMe_any (b me n f t c : Nat) (k : Bs) (p : Pc) (x : Ext) (w : World) (h : w.heap[b]? = some (.cells (repArr me n p x) 69)) :
    Calls Tryz.prog 30 #[.pointer (some ⟨b, 0, none⟩), .agg (headArr k f t c)] w fun e w' => e = .returned (.bool (forMe me n f t)) ∧ Blw w w' := by
  have BX : Hid (Blw w (w.alloc (.cells (headArr k f t c) 71))) := (Blw.rfl _).al _
  have hb := BX.out.bk' h
  have HIO := hid (fun wx hw => isOther_any b me n (f : Int) p x wx hw)
  have HB := hid hb
  rw [isOth_nat] at HIO
  have q0 : (w.alloc (.cells (headArr k f t c) 71)).cell? ⟨b, 0, none⟩ = some (.int .i64 me) := blk_cell hb 0
  obtain ⟨r, hr⟩ : ∃ r, r = forMe me n f t := ⟨_, rfl⟩
  rw [← hr]
  have HR := hid hr
  unfold headArr at *
  clear h hb hr
  by_cases h1 : t = me
  · have g1 : ((t : Int) == (me : Int)) = true := by rw [beq_iff_eq]; omega
    have HT : Hid (r = (decide (f ≠ me) && decide (f < n))) := by show _ = _; rw [HR.out]; simp [forMe, h1]
    generalize (decide (f ≠ me) && decide (f < n)) = o at *
    clear h1 HR
    go_enter Tryz.func30, Tryz.ntmps30
    go_wp2_with fail
    go_region_with (first | (go_at_call 72; refine (HIO.out _ (show (w.alloc _).drew.heap[b]? = _ from HB.out)).mono ?_; rintro e w1 ⟨rfl, hw1⟩; subst w1))
    all_goals
      go_wp2
      go_ret
      exact ⟨by rw [HT.out]; rfl, by first | exact BX.out.drn _ | exact BX.out.dr | exact BX.out⟩
  · have g1 : ((t : Int) == (me : Int)) = false := by rw [beq_eq_false_iff_ne]; omega
    have HT : Hid (r = false) := by show _ = _; rw [HR.out]; simp [forMe, h1]
    clear h1
    go_enter Tryz.func30, Tryz.ntmps30
    go_wp2_with fail
    go_quiet (fail)
    go_wp2
    go_ret
    exact ⟨by rw [HT.out]; rfl, BX.out.drn _⟩
end Go.Proofs.YtalaldfgjgpacaaGreatDoor

namespace Go.Proofs.YtalaldfgjgpacaaGreatDoor
set_option linter.unusedVariables false
set_option linter.unusedSimpArgs false
open Go.RowKit

/-- What an event joins: what it takes away, and its own dot. -/
def askDelta (me : Nat) (p : Pc) (kd c it v : Int) : Pc :=
  if kd = 3 then Pc.empty.put me (p.count (me : Int)) ⟨true, true, c, it, v⟩
  else if kd = 4 then (p.dotsOf c it).put me (p.count (me : Int)) ⟨true, true, c, it, (v.natAbs : Int)⟩
  else if kd = 5 then (p.dotsOf c it).put me (p.count (me : Int)) { (p.dotsOf c it) me (p.count (me : Int)) with known := true }
  else (p.cartTo c 4).put me (p.count (me : Int)) { (p.cartTo c 4) me (p.count (me : Int)) with known := true }

def askTo (me n : Nat) (p : Pc) (kd c it v : Int) (l : Bs) : Pc := if evErr me n p l = 0 then p.join (askDelta me p kd c it v) else p
def askX (me n : Nat) (p : Pc) (x : Ext) (kd c it v : Int) (l : Bs) : Ext := if evErr me n p l = 0 then x.next (askDelta me p kd c it v) else x

/-- An event asked of a replica: the answer, and what it is turned into. -/
structure AskEv (b me n : Nat) (p : Pc) (x : Ext) (kd c it v : Int) (l : Bs) (w : World) (e : Ending) (w' : World) : Prop where
  said : e = .returned (.tuple #[.string ⟨(evTok me n p (askTo me n p kd c it v l) l).toArray⟩, .int .i64 (evErr me n p l)])
  rep : w'.heap[b]? = some (.cells (repArr me n (askTo me n p kd c it v l) (askX me n p x kd c it v l)) 69)
  bx : Bx b w w'

set_option maxRecDepth 100000 in
set_option maxHeartbeats 1000000 in
theorem asks_add (cb xb b me n r cx : Nat) (mode : Int) (p : Pc) (x : Ext) (hxs : x.small) (xa : Array Value) (tx : TypeId) (K E W A T O : Value) (w : World) (said : Bs) (err last : Int) (lg st : Bs) (old : Value) (n1 n2 n3 cl : Int) (tok : Bs) (r0 t0 a0 b0 c0 : Int) (s0 s : ByteArray) (c it v : Int) (hn : n ≤ 3) (hme : me < n) (hr : r < n) (hs : s.size ≤ maxLen) (ht : Tab Tryz.prog w)
    (hc0 : 0 ≤ c) (hc1 : c < 3) (hi0 : 0 ≤ it) (hi1 : it < 4) (hv0 : -99 ≤ v) (hv1 : v ≤ 99)
    (hc : w.heap[cb]? = some (.cells (clA n mode (.slice (some ⟨xb, 0, none⟩) n cx) K E W A T O said err last lg st old n1 n2 n3 cl tok) 38))
    (hx : w.heap[xb]? = some (.cells xa tx)) (hxr : xa[r]? = some (.pointer (some ⟨b, 0, none⟩))) (h : w.heap[b]? = some (.cells (repArr me n p x) 69)) :
    Calls Tryz.prog 121 #[.pointer (some ⟨cb, 0, none⟩), .int .i64 r, .agg #[.int .i64 3, .int .i64 r0, .int .i64 t0, .int .i64 a0, .int .i64 b0, .int .i64 c0, .string s0], .string s, .int .i64 c, .int .i64 it, .int .i64 v] w (AskEv b me n p x 3 c it v s.data.toList w) := by
  have g0 : (w.alloc (.cells #[.int .i64 3, .int .i64 r0, .int .i64 t0, .int .i64 a0, .int .i64 b0, .int .i64 c0, .string s0] 46)).heap[b]? = some (.cells (repArr me n p x) 69) := hp_old _ (lt_of_blk h) h
  have c2 : (w.alloc (.cells #[.int .i64 3, .int .i64 r0, .int .i64 t0, .int .i64 a0, .int .i64 b0, .int .i64 c0, .string s0] 46)).cell? ⟨cb, 2, none⟩ = some (.slice (some ⟨xb, 0, none⟩) n cx) := by rw [blk_cell (hp_old _ (lt_of_blk hc) hc)]; rfl
  have x0 : (w.alloc (.cells #[.int .i64 3, .int .i64 r0, .int .i64 t0, .int .i64 a0, .int .i64 b0, .int .i64 c0, .string s0] 46)).cell? ⟨xb, r, none⟩ = some (.pointer (some ⟨b, 0, none⟩)) := by rw [blk_cell (hp_old _ (lt_of_blk hx) hx)]; exact hxr
  have G := hid (And.intro g0 (ht.blw ((Blw.rfl w).al (.cells #[.int .i64 3, .int .i64 r0, .int .i64 t0, .int .i64 a0, .int .i64 b0, .int .i64 c0, .string s0] 46))))
  have HSS := hid hs
  clear hc hx h g0 ht hs hxr
  have HC := hid (add_yes (xt := x) b me n p s c it v _ hn hme HSS.out G.out.1 hc0 hc1 hi0 hi1 hv0 hv1 hxs G.out.2)
  go_enter Tryz.func121, Tryz.ntmps121
  go_wp2_with fail
  refine HC.out.mono ?_
  rintro e w1 ⟨rfl, hr1⟩
  have FIN := hid (show AskEv b me n p x 3 c it v s.data.toList w _ w1 from ⟨_root_.rfl, hr1.1, ((Blw.bx ((Blw.rfl w).al _) b)).tr hr1.2⟩)
  clear hr1
  go_wp2
  go_ret2
  exact FIN.out

set_option maxRecDepth 100000 in
set_option maxHeartbeats 1000000 in
theorem asks_remove (cb xb b me n r cx : Nat) (mode : Int) (p : Pc) (x : Ext) (hxs : x.small) (xa : Array Value) (tx : TypeId) (K E W A T O : Value) (w : World) (said : Bs) (err last : Int) (lg st : Bs) (old : Value) (n1 n2 n3 cl : Int) (tok : Bs) (r0 t0 a0 b0 c0 : Int) (s0 s : ByteArray) (c it v : Int) (hn : n ≤ 3) (hme : me < n) (hr : r < n) (hs : s.size ≤ maxLen) (ht : Tab Tryz.prog w)
    (hc0 : 0 ≤ c) (hc1 : c < 3) (hi0 : 0 ≤ it) (hi1 : it < 4) (hv0 : -99 ≤ v) (hv1 : v ≤ 99)
    (hc : w.heap[cb]? = some (.cells (clA n mode (.slice (some ⟨xb, 0, none⟩) n cx) K E W A T O said err last lg st old n1 n2 n3 cl tok) 38))
    (hx : w.heap[xb]? = some (.cells xa tx)) (hxr : xa[r]? = some (.pointer (some ⟨b, 0, none⟩))) (h : w.heap[b]? = some (.cells (repArr me n p x) 69)) :
    Calls Tryz.prog 121 #[.pointer (some ⟨cb, 0, none⟩), .int .i64 r, .agg #[.int .i64 5, .int .i64 r0, .int .i64 t0, .int .i64 a0, .int .i64 b0, .int .i64 c0, .string s0], .string s, .int .i64 c, .int .i64 it, .int .i64 v] w (AskEv b me n p x 5 c it v s.data.toList w) := by
  have g0 : (w.alloc (.cells #[.int .i64 5, .int .i64 r0, .int .i64 t0, .int .i64 a0, .int .i64 b0, .int .i64 c0, .string s0] 46)).heap[b]? = some (.cells (repArr me n p x) 69) := hp_old _ (lt_of_blk h) h
  have c2 : (w.alloc (.cells #[.int .i64 5, .int .i64 r0, .int .i64 t0, .int .i64 a0, .int .i64 b0, .int .i64 c0, .string s0] 46)).cell? ⟨cb, 2, none⟩ = some (.slice (some ⟨xb, 0, none⟩) n cx) := by rw [blk_cell (hp_old _ (lt_of_blk hc) hc)]; rfl
  have x0 : (w.alloc (.cells #[.int .i64 5, .int .i64 r0, .int .i64 t0, .int .i64 a0, .int .i64 b0, .int .i64 c0, .string s0] 46)).cell? ⟨xb, r, none⟩ = some (.pointer (some ⟨b, 0, none⟩)) := by rw [blk_cell (hp_old _ (lt_of_blk hx) hx)]; exact hxr
  have G := hid (And.intro g0 (ht.blw ((Blw.rfl w).al (.cells #[.int .i64 5, .int .i64 r0, .int .i64 t0, .int .i64 a0, .int .i64 b0, .int .i64 c0, .string s0] 46))))
  have HSS := hid hs
  clear hc hx h g0 ht hs hxr
  have HC := hid (remove_yes (xt := x) b me n p s c it _ hn hme HSS.out G.out.1 hc0 hc1 hi0 hi1 hxs G.out.2)
  go_enter Tryz.func121, Tryz.ntmps121
  go_wp2_with fail
  refine HC.out.mono ?_
  rintro e w1 ⟨rfl, hr1⟩
  have FIN := hid (show AskEv b me n p x 5 c it v s.data.toList w _ w1 from ⟨_root_.rfl, hr1.1, ((Blw.bx ((Blw.rfl w).al _) b)).tr hr1.2⟩)
  clear hr1
  go_wp2
  go_ret2
  exact FIN.out

set_option maxRecDepth 100000 in
set_option maxHeartbeats 1000000 in
theorem asks_clear (cb xb b me n r cx : Nat) (mode : Int) (p : Pc) (x : Ext) (hxs : x.small) (xa : Array Value) (tx : TypeId) (K E W A T O : Value) (w : World) (said : Bs) (err last : Int) (lg st : Bs) (old : Value) (n1 n2 n3 cl : Int) (tok : Bs) (r0 t0 a0 b0 c0 : Int) (s0 s : ByteArray) (c it v : Int) (hn : n ≤ 3) (hme : me < n) (hr : r < n) (hs : s.size ≤ maxLen) (ht : Tab Tryz.prog w)
    (hc0 : 0 ≤ c) (hc1 : c < 3) (hi0 : 0 ≤ it) (hi1 : it < 4) (hv0 : -99 ≤ v) (hv1 : v ≤ 99)
    (hc : w.heap[cb]? = some (.cells (clA n mode (.slice (some ⟨xb, 0, none⟩) n cx) K E W A T O said err last lg st old n1 n2 n3 cl tok) 38))
    (hx : w.heap[xb]? = some (.cells xa tx)) (hxr : xa[r]? = some (.pointer (some ⟨b, 0, none⟩))) (h : w.heap[b]? = some (.cells (repArr me n p x) 69)) :
    Calls Tryz.prog 121 #[.pointer (some ⟨cb, 0, none⟩), .int .i64 r, .agg #[.int .i64 6, .int .i64 r0, .int .i64 t0, .int .i64 a0, .int .i64 b0, .int .i64 c0, .string s0], .string s, .int .i64 c, .int .i64 it, .int .i64 v] w (AskEv b me n p x 6 c it v s.data.toList w) := by
  have g0 : (w.alloc (.cells #[.int .i64 6, .int .i64 r0, .int .i64 t0, .int .i64 a0, .int .i64 b0, .int .i64 c0, .string s0] 46)).heap[b]? = some (.cells (repArr me n p x) 69) := hp_old _ (lt_of_blk h) h
  have c2 : (w.alloc (.cells #[.int .i64 6, .int .i64 r0, .int .i64 t0, .int .i64 a0, .int .i64 b0, .int .i64 c0, .string s0] 46)).cell? ⟨cb, 2, none⟩ = some (.slice (some ⟨xb, 0, none⟩) n cx) := by rw [blk_cell (hp_old _ (lt_of_blk hc) hc)]; rfl
  have x0 : (w.alloc (.cells #[.int .i64 6, .int .i64 r0, .int .i64 t0, .int .i64 a0, .int .i64 b0, .int .i64 c0, .string s0] 46)).cell? ⟨xb, r, none⟩ = some (.pointer (some ⟨b, 0, none⟩)) := by rw [blk_cell (hp_old _ (lt_of_blk hx) hx)]; exact hxr
  have G := hid (And.intro g0 (ht.blw ((Blw.rfl w).al (.cells #[.int .i64 6, .int .i64 r0, .int .i64 t0, .int .i64 a0, .int .i64 b0, .int .i64 c0, .string s0] 46))))
  have HSS := hid hs
  clear hc hx h g0 ht hs hxr
  have HC := hid (clear_yes (xt := x) b me n p s c _ hn hme HSS.out G.out.1 hc0 hc1 hxs G.out.2)
  go_enter Tryz.func121, Tryz.ntmps121
  go_wp2_with fail
  refine HC.out.mono ?_
  rintro e w1 ⟨rfl, hr1⟩
  have FIN := hid (show AskEv b me n p x 6 c it v s.data.toList w _ w1 from ⟨_root_.rfl, hr1.1, ((Blw.bx ((Blw.rfl w).al _) b)).tr hr1.2⟩)
  clear hr1
  go_wp2
  go_ret2
  exact FIN.out

set_option maxRecDepth 100000 in
set_option maxHeartbeats 1000000 in
theorem asks_set (cb xb b me n r cx : Nat) (mode : Int) (p : Pc) (x : Ext) (hxs : x.small) (xa : Array Value) (tx : TypeId) (K E W A T O : Value) (w : World) (said : Bs) (err last : Int) (lg st : Bs) (old : Value) (n1 n2 n3 cl : Int) (tok : Bs) (r0 t0 a0 b0 c0 : Int) (s0 s : ByteArray) (c it v : Int) (hn : n ≤ 3) (hme : me < n) (hr : r < n) (hs : s.size ≤ maxLen) (ht : Tab Tryz.prog w)
    (hc0 : 0 ≤ c) (hc1 : c < 3) (hi0 : 0 ≤ it) (hi1 : it < 4) (hv0 : -99 ≤ v) (hv1 : v ≤ 99)
    (hc : w.heap[cb]? = some (.cells (clA n mode (.slice (some ⟨xb, 0, none⟩) n cx) K E W A T O said err last lg st old n1 n2 n3 cl tok) 38))
    (hx : w.heap[xb]? = some (.cells xa tx)) (hxr : xa[r]? = some (.pointer (some ⟨b, 0, none⟩))) (h : w.heap[b]? = some (.cells (repArr me n p x) 69)) :
    Calls Tryz.prog 121 #[.pointer (some ⟨cb, 0, none⟩), .int .i64 r, .agg #[.int .i64 4, .int .i64 r0, .int .i64 t0, .int .i64 a0, .int .i64 b0, .int .i64 c0, .string s0], .string s, .int .i64 c, .int .i64 it, .int .i64 v] w (AskEv b me n p x 4 c it v s.data.toList w) := by
  have g0 : (w.alloc (.cells #[.int .i64 4, .int .i64 r0, .int .i64 t0, .int .i64 a0, .int .i64 b0, .int .i64 c0, .string s0] 46)).heap[b]? = some (.cells (repArr me n p x) 69) := hp_old _ (lt_of_blk h) h
  have c2 : (w.alloc (.cells #[.int .i64 4, .int .i64 r0, .int .i64 t0, .int .i64 a0, .int .i64 b0, .int .i64 c0, .string s0] 46)).cell? ⟨cb, 2, none⟩ = some (.slice (some ⟨xb, 0, none⟩) n cx) := by rw [blk_cell (hp_old _ (lt_of_blk hc) hc)]; rfl
  have x0 : (w.alloc (.cells #[.int .i64 4, .int .i64 r0, .int .i64 t0, .int .i64 a0, .int .i64 b0, .int .i64 c0, .string s0] 46)).cell? ⟨xb, r, none⟩ = some (.pointer (some ⟨b, 0, none⟩)) := by rw [blk_cell (hp_old _ (lt_of_blk hx) hx)]; exact hxr
  have G := hid (And.intro g0 (ht.blw ((Blw.rfl w).al (.cells #[.int .i64 4, .int .i64 r0, .int .i64 t0, .int .i64 a0, .int .i64 b0, .int .i64 c0, .string s0] 46))))
  have HSS := hid hs
  clear hc hx h g0 ht hs hxr
  by_cases hneg : v < 0
  · have hv : (v.natAbs : Int) = -v := by omega
    have HE := hid (show askTo me n p 4 c it v s.data.toList = evPut me n p (p.dotsOf c it) s.data.toList c it (-v) by rw [← hv]; rfl)
    have HX := hid (show askX me n p x 4 c it v s.data.toList = evXp me n p (p.dotsOf c it) x s.data.toList c it (-v) by rw [← hv]; rfl)
    clear hv
    have HC := hid (set_yes (xt := x) b me n p s c it (-v) _ hn hme HSS.out G.out.1 hc0 hc1 hi0 hi1 (by omega) (by omega) hxs G.out.2)
    go_enter Tryz.func121, Tryz.ntmps121
    go_wp2_with fail
    refine HC.out.mono ?_
    rintro e w1 ⟨rfl, hr1⟩
    have FIN := hid (show AskEv b me n p x 4 c it v s.data.toList w (.returned (.tuple #[.string ⟨(evTok me n p (evPut me n p (p.dotsOf c it) s.data.toList c it (-v)) s.data.toList).toArray⟩, .int .i64 (evErr me n p s.data.toList)])) w1 from ⟨by rw [HE.out], by rw [HE.out, HX.out]; exact hr1.1, ((Blw.bx ((Blw.rfl w).al _) b)).tr hr1.2⟩)
    clear hr1
    go_wp2
    go_ret2
    exact FIN.out
  · have hv : (v.natAbs : Int) = v := by omega
    have HE := hid (show askTo me n p 4 c it v s.data.toList = evPut me n p (p.dotsOf c it) s.data.toList c it (v) by rw [← hv]; rfl)
    have HX := hid (show askX me n p x 4 c it v s.data.toList = evXp me n p (p.dotsOf c it) x s.data.toList c it (v) by rw [← hv]; rfl)
    clear hv
    have HC := hid (set_yes (xt := x) b me n p s c it (v) _ hn hme HSS.out G.out.1 hc0 hc1 hi0 hi1 (by omega) (by omega) hxs G.out.2)
    go_enter Tryz.func121, Tryz.ntmps121
    go_wp2_with fail
    refine HC.out.mono ?_
    rintro e w1 ⟨rfl, hr1⟩
    have FIN := hid (show AskEv b me n p x 4 c it v s.data.toList w (.returned (.tuple #[.string ⟨(evTok me n p (evPut me n p (p.dotsOf c it) s.data.toList c it (v)) s.data.toList).toArray⟩, .int .i64 (evErr me n p s.data.toList)])) w1 from ⟨by rw [HE.out], by rw [HE.out, HX.out]; exact hr1.1, ((Blw.bx ((Blw.rfl w).al _) b)).tr hr1.2⟩)
    clear hr1
    go_wp2
    go_ret2
    exact FIN.out

/-- What Read tells, and the token with it. -/
def rdSaid (n : Nat) (p : Pc) (c : Int) (l : Bs) : Bs := if tokErr n p l = 0 then p.sumsTo c 4 else []
def rdTok (n : Nat) (p : Pc) (l : Bs) : Bs := if tokErr n p l = 0 then p.digsTo n else []
set_option maxRecDepth 100000 in
set_option maxHeartbeats 1000000 in
theorem asks_read (cb xb b me n r cx : Nat) (mode : Int) (p : Pc) (hp : p.ok) (x : Ext) (xa : Array Value) (tx : TypeId) (K E W A T O : Value) (w : World) (said : Bs) (err last : Int) (lg st : Bs) (old : Value) (n1 n2 n3 cl : Int) (tok : Bs) (r0 t0 a0 b0 c0 : Int) (s0 s : ByteArray) (c it v : Int) (hn : n ≤ 3) (hr : r < n) (hs : s.size ≤ maxLen) (ht : Tab Tryz.prog w)
    (hc0 : 0 ≤ c) (hc1 : c < 3)
    (hc : w.heap[cb]? = some (.cells (clA n mode (.slice (some ⟨xb, 0, none⟩) n cx) K E W A T O said err last lg st old n1 n2 n3 cl tok) 38))
    (hx : w.heap[xb]? = some (.cells xa tx)) (hxr : xa[r]? = some (.pointer (some ⟨b, 0, none⟩))) (h : w.heap[b]? = some (.cells (repArr me n p x) 69)) :
    Calls Tryz.prog 121 #[.pointer (some ⟨cb, 0, none⟩), .int .i64 r, .agg #[.int .i64 7, .int .i64 r0, .int .i64 t0, .int .i64 a0, .int .i64 b0, .int .i64 c0, .string s0], .string s, .int .i64 c, .int .i64 it, .int .i64 v] w fun e w' =>
      e = .returned (.tuple #[.string ⟨(rdTok n p s.data.toList).toArray⟩, .int .i64 (tokErr n p s.data.toList)]) ∧ w'.heap[cb]? = some (.cells (clA n mode (.slice (some ⟨xb, 0, none⟩) n cx) K E W A T O (rdSaid n p c s.data.toList) err last lg st old n1 n2 n3 cl tok) 38) ∧ Bx cb w w' := by
  have g0 : (w.alloc (.cells #[.int .i64 7, .int .i64 r0, .int .i64 t0, .int .i64 a0, .int .i64 b0, .int .i64 c0, .string s0] 46)).heap[b]? = some (.cells (repArr me n p x) 69) := hp_old _ (lt_of_blk h) h
  have g1 := hp_old (.cells #[.int .i64 7, .int .i64 r0, .int .i64 t0, .int .i64 a0, .int .i64 b0, .int .i64 c0, .string s0] 46) (lt_of_blk hc) hc
  have c2 : (w.alloc (.cells #[.int .i64 7, .int .i64 r0, .int .i64 t0, .int .i64 a0, .int .i64 b0, .int .i64 c0, .string s0] 46)).cell? ⟨cb, 2, none⟩ = some (.slice (some ⟨xb, 0, none⟩) n cx) := by rw [blk_cell g1]; rfl
  have x0 : (w.alloc (.cells #[.int .i64 7, .int .i64 r0, .int .i64 t0, .int .i64 a0, .int .i64 b0, .int .i64 c0, .string s0] 46)).cell? ⟨xb, r, none⟩ = some (.pointer (some ⟨b, 0, none⟩)) := by rw [blk_cell (hp_old _ (lt_of_blk hx) hx)]; exact hxr
  have G := hid (And.intro g0 (And.intro g1 (ht.blw ((Blw.rfl w).al (.cells #[.int .i64 7, .int .i64 r0, .int .i64 t0, .int .i64 a0, .int .i64 b0, .int .i64 c0, .string s0] 46)))))
  have HSS := hid hs
  have HP := hid hp
  clear hc hx h g0 g1 ht hs hxr hp
  by_cases htk : tokErr n p s.data.toList = 0
  · have HTE := hid htk
    clear htk
    have HC := hid (read_yes (xt := x) b me n p s c _ hn HSS.out HP.out G.out.2.2 G.out.1 hc0 hc1 HTE.out)
    go_enter Tryz.func121, Tryz.ntmps121
    go_wp2_with fail
    refine HC.out.mono ?_
    rintro e w1 ⟨rfl, b1⟩
    have g := b1.bk' G.out.2.1
    have d9 : w1.cell? ⟨cb, 9, none⟩ = some (.string ⟨said.toArray⟩) := by rw [blk_cell g]; rfl
    have f9 := blk_frozen g 9
    have FIN := hid (show (Ending.returned (.tuple #[.string ⟨(p.digsTo n).toArray⟩, .int .i64 (0)]) = Ending.returned (.tuple #[.string ⟨(rdTok n p s.data.toList).toArray⟩, .int .i64 (tokErr n p s.data.toList)])) ∧ (w1.setCell ⟨cb, 9, none⟩ (.string ⟨(p.sumsTo c 4).toArray⟩)).heap[cb]? = some (.cells (clA n mode (.slice (some ⟨xb, 0, none⟩) n cx) K E W A T O (rdSaid n p c s.data.toList) err last lg st old n1 n2 n3 cl tok) 38) ∧ Bx cb w (w1.setCell ⟨cb, 9, none⟩ (.string ⟨(p.sumsTo c 4).toArray⟩)) from
      ⟨by rw [rdTok, if_pos HTE.out, HTE.out], by rw [rdSaid, if_pos HTE.out, heap_setCell_self g]; rfl, (Blw.bx (((Blw.rfl w).al _).tr b1) cb).scs 9 [_]⟩)
    clear b1 g
    go_wp2
    go_ret2
    exact FIN.out
  · have HTE := hid htk
    clear htk
    have HC := hid (read_stale (xt := x) b me n p s c _ hn HSS.out G.out.1 hc0 hc1 HTE.out)
    go_enter Tryz.func121, Tryz.ntmps121
    go_wp2_with fail
    refine HC.out.mono ?_
    rintro e w1 ⟨rfl, b1⟩
    have g := b1.bk' G.out.2.1
    have d9 : w1.cell? ⟨cb, 9, none⟩ = some (.string ⟨said.toArray⟩) := by rw [blk_cell g]; rfl
    have f9 := blk_frozen g 9
    have FIN := hid (show (Ending.returned (.tuple #[.string ⟨(([] : Bs)).toArray⟩, .int .i64 (tokErr n p s.data.toList)]) = Ending.returned (.tuple #[.string ⟨(rdTok n p s.data.toList).toArray⟩, .int .i64 (tokErr n p s.data.toList)])) ∧ (w1.setCell ⟨cb, 9, none⟩ (.string ⟨(([] : Bs)).toArray⟩)).heap[cb]? = some (.cells (clA n mode (.slice (some ⟨xb, 0, none⟩) n cx) K E W A T O (rdSaid n p c s.data.toList) err last lg st old n1 n2 n3 cl tok) 38) ∧ Bx cb w (w1.setCell ⟨cb, 9, none⟩ (.string ⟨(([] : Bs)).toArray⟩)) from
      ⟨by rw [rdTok, if_neg HTE.out], by rw [rdSaid, if_neg HTE.out, heap_setCell_self g]; rfl, (Blw.bx (((Blw.rfl w).al _).tr b1) cb).scs 9 [_]⟩)
    clear b1 g
    go_wp2
    go_ret2
    exact FIN.out
end Go.Proofs.YtalaldfgjgpacaaGreatDoor
