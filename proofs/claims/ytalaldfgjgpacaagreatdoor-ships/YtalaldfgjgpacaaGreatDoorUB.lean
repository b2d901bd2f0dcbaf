import Derived.Test.YtalaldfgjgpacaaGreatDoorUA
namespace Go.Proofs.YtalaldfgjgpacaaGreatDoor
set_option linter.unusedVariables false
set_option linter.unusedSimpArgs false
open Go.RowKit
attribute [local go_sem ↓] Go.wp_at_zero Go.wp_at_succ
attribute [local go_sem] blkOf_mk offOf_mk isPt_mk

def Ext.setAck (x : Ext) (f k : Nat) : Ext := { x with ack := fun r => if r = f then k else x.ack r }

theorem rep_put_ack0 {w : World} {b me n : Nat} {p : Pc} {x : Ext} {t : TypeId} (h : w.heap[b]? = some (.cells (repArr me n p x) t)) (k : Nat) : (w.setCell ⟨b, 680, none⟩ (.int .i64 k)).heap[b]? = some (.cells (repArr me n p (x.setAck 0 k)) t) := by
  have e := heap_setCell_self (o := 680) (repF_blk h) (.int .i64 (k : Int))
  rw [show 680 = 679 + 1 from rfl, repF_set _ _ _ _ _ _ 1 _ (by simp [Ext.tail])] at e
  rw [repF]
  exact e
theorem rep_put_ack1 {w : World} {b me n : Nat} {p : Pc} {x : Ext} {t : TypeId} (h : w.heap[b]? = some (.cells (repArr me n p x) t)) (k : Nat) : (w.setCell ⟨b, 681, none⟩ (.int .i64 k)).heap[b]? = some (.cells (repArr me n p (x.setAck 1 k)) t) := by
  have e := heap_setCell_self (o := 681) (repF_blk h) (.int .i64 (k : Int))
  rw [show 681 = 679 + 2 from rfl, repF_set _ _ _ _ _ _ 2 _ (by simp [Ext.tail])] at e
  rw [repF]
  exact e
theorem rep_put_ack2 {w : World} {b me n : Nat} {p : Pc} {x : Ext} {t : TypeId} (h : w.heap[b]? = some (.cells (repArr me n p x) t)) (k : Nat) : (w.setCell ⟨b, 682, none⟩ (.int .i64 k)).heap[b]? = some (.cells (repArr me n p (x.setAck 2 k)) t) := by
  have e := heap_setCell_self (o := 682) (repF_blk h) (.int .i64 (k : Int))
  rw [show 682 = 679 + 3 from rfl, repF_set _ _ _ _ _ _ 3 _ (by simp [Ext.tail])] at e
  rw [repF]
  exact e

/-- What Acked answers and leaves, case by case. -/
structure AckSpec (ok fm : Bool) (f cnt : Nat) (x : Ext) (er : Int) (x' : Ext) : Prop where
  h5 : ok = false → er = 5 ∧ x' = x
  h6 : ok = true → fm = false → er = 6 ∧ x' = x
  h9 : ok = true → fm = true → x.had < cnt → er = 9 ∧ x' = x
  h0 : ok = true → fm = true → cnt ≤ x.had → cnt ≤ x.ack f → er = 0 ∧ x' = x
  h1 : ok = true → fm = true → cnt ≤ x.had → x.ack f < cnt → er = 0 ∧ x' = x.setAck f cnt

set_option maxRecDepth 100000 in
set_option maxHeartbeats 2000000 in
theorem readHead_len (s : ByteArray) (w : World) (h : s.size ≠ 5) :
    Calls Tryz.prog 70 #[.string s] w fun e w' => e = .returned (.tuple #[.agg #[.string ⟨#[]⟩, .int .i64 0, .int .i64 0, .int .i64 0], .bool false]) ∧ Blw w w' := by
  have h1 : ((s.size : Int) == 5) = false := by rw [beq_eq_false_iff_ne]; omega
  have h2 : ((s.size : Int) != 5) = true := by rw [bne, h1]; rfl
  go_enter Tryz.func70, Tryz.ntmps70
  go_wp2
  exact bodyPost_ret (v := .tuple #[.agg #[.string ⟨#[]⟩, .int .i64 0, .int .i64 0, .int .i64 0], .bool false]) (by simp [results, Tryz.results70, go_sem]) rfl ⟨rfl, (Blw.rfl _).al _⟩

/-- What no head is. -/
theorem acked_bad (b me n : Nat) (p : Pc) (x : Ext) (y : ByteArray) (w : World) (HRH : Hid (∀ wx, Calls Tryz.prog 70 #[.string y] wx fun e w' => e = .returned (.tuple #[.agg #[.string ⟨#[]⟩, .int .i64 0, .int .i64 0, .int .i64 0], .bool false]) ∧ Blw wx w')) (h : w.heap[b]? = some (.cells (repArr me n p x) 69)) :
    Calls Tryz.prog 58 #[.pointer (some ⟨b, 0, none⟩), .string y] w fun e w' => e = .returned (.int .i64 5) ∧ RepTo b me n p x w w' := by
  have H := hid h
  clear h
  go_enter Tryz.func58, Tryz.ntmps58
  go_wp2_with fail
  refine (HRH.out _).mono ?_
  rintro e w1 ⟨rfl, b1⟩
  have B1 := hid b1
  clear b1
  go_wp2
  go_ret
  exact ⟨rfl, (B1.out.al _).bk' H.out, (B1.out.al _).bx b⟩

set_option maxRecDepth 100000 in
set_option maxHeartbeats 4000000 in
theorem acked_at0 (b me n : Nat) (p : Pc) (x : Ext) (c0 c1 c2 c3 c4 : UInt8) (ok fm : Bool) (cn : Nat) (er : Int) (x' : Ext) (y : ByteArray) (w : World) (hy : y = ⟨#[c0, c1, c2, c3, c4]⟩) (hok : ok = (hdOk c1 c2 c3 c4 && ([c0] == [(65 : UInt8)]))) (hf : c1.toNat - 48 = 0) (hc : cn = (c3.toNat - 48) * 10 + (c4.toNat - 48)) (hfm : fm = forMe me n 0 (c2.toNat - 48)) (hS : AckSpec ok fm 0 cn x er x') (hh : x.had < 100)
    (h : w.heap[b]? = some (.cells (repArr me n p x) 69)) (hdo : hdOk c1 c2 c3 c4 = true) (hk : x.ack 0 < 1000) (hcn : cn < 100) :
    Calls Tryz.prog 58 #[.pointer (some ⟨b, 0, none⟩), .string y] w fun e w' => e = .returned (.int .i64 er) ∧ RepTo b me n p x' w w' := by
  have HRH := hid (readHead_any c0 c1 c2 c3 c4 true _ w (by rw [hdo]) rfl)
  rw [if_pos rfl, ← hy, hf, ← hc] at HRH
  have HF := hid (fun wx hw => isForMe_any b me n 0 (c2.toNat - 48) cn [c0] p x wx hw)
  rw [← hfm] at HF
  have S := hid hS
  have H := hid h
  have hbl := lt_of_blk h
  rw [hdo, Bool.true_and] at hok
  have HOK := hid hok
  generalize (c2.toNat - 48) = tt at *
  unfold headArr at *
  cases hk0 : ([c0] == [(65 : UInt8)])
  · have k0 : ([c0] != [(65 : UInt8)]) = true := by rw [bne, hk0]; rfl
    obtain ⟨e1, e2⟩ := hS.h5 (by rw [hok, hk0])
    subst e1 e2
    clear hok hS S h hy hf hc hfm hdo HF HOK
    go_enter Tryz.func58, Tryz.ntmps58
    go_wp2_with fail
    refine HRH.out.mono ?_
    rintro e w1 ⟨rfl, b1⟩
    have B1 := hid b1
    clear b1
    go_wp2
    go_ret
    exact ⟨rfl, (B1.out.al _).bk' H.out, (B1.out.al _).bx b⟩
  · have k0 : ([c0] != [(65 : UInt8)]) = false := by rw [bne, hk0]; rfl
    have OK : Hid (ok = true) := by show _ = _; rw [hok, hk0]
    clear hok hS h hy hf hc hfm hdo HOK
    go_enter Tryz.func58, Tryz.ntmps58
    go_wp2_with fail
    refine HRH.out.mono ?_
    rintro e w1 ⟨rfl, b1⟩
    have G1 := hid (hp_new w1 (.cells #[.string ⟨[c0].toArray⟩, .int .i64 ((0 : Nat) : Int), .int .i64 tt, .int .i64 cn] 71))
    have B1 : Hid (Blw w (w1.alloc (.cells #[.string ⟨[c0].toArray⟩, .int .i64 ((0 : Nat) : Int), .int .i64 tt, .int .i64 cn] 71))) := b1.al _
    clear b1
    go_wp2_with fail
    refine (HF.out _ (B1.out.bk' H.out)).mono ?_
    rintro e w3 ⟨rfl, b3⟩
    have B3 := hid (B1.out.tr b3)
    have G3 := hid (b3.bk' G1.out)
    have R3 := hid (B3.out.bk' H.out)
    generalize w1.heap.size = hb at *
    clear b3 G1 B1
    cases fm
    · obtain ⟨e1, e2⟩ := S.out.h6 OK.out (by trivial)
      subst e1 e2
      go_wp2
      go_ret
      exact ⟨rfl, R3.out, B3.out.bx b⟩
    · have a1 : w3.cell? ⟨hb, 1, none⟩ = some (.int .i64 ((0 : Nat) : Int)) := blk_cell G3.out 1
      have a3 : w3.cell? ⟨hb, 3, none⟩ = some (.int .i64 cn) := blk_cell G3.out 3
      have c3' := rep_had R3.out
      have ck := rep_ack R3.out 0 (by omega)
      simp only [Nat.reduceAdd, Nat.add_zero] at ck
      have fz := blk_frozen R3.out 680
      by_cases hhd : x.had < cn
      · obtain ⟨e1, e2⟩ := S.out.h9 OK.out (by trivial) hhd
        subst e1 e2
        have d1 : decide ((x'.had : Int) < (cn : Int)) = true := by simpa using hhd
        go_wp2_with fail
        go_quiet (fail)
        go_wp2
        go_ret
        exact ⟨rfl, R3.out, (B3.out.drn _).bx b⟩
      · have d1 : decide ((x.had : Int) < (cn : Int)) = false := by simpa using hhd
        by_cases hac : x.ack 0 < cn
        · obtain ⟨e1, e2⟩ := S.out.h1 OK.out (by trivial) (by omega) hac
          have E2 := hid e2
          subst e1
          have d2 : decide ((x.ack 0 : Int) < (cn : Int)) = true := by simpa using hac
          go_wp2_with fail
          go_quiet (fail)
          go_wp2_with fail
          go_quiet (fail)
          go_wp2_with fail
          go_region
          go_wp2
          go_ret
          refine ⟨rfl, ?_, ((B3.out.drn _).bx b).sc _ _⟩
          rw [E2.out]
          exact rep_put_ack0 (((Blw.rfl w3).drn _).bk' R3.out) cn
        · obtain ⟨e1, e2⟩ := S.out.h0 OK.out (by trivial) (by omega) (by omega)
          subst e1 e2
          have d2 : decide ((x'.ack 0 : Int) < (cn : Int)) = false := by simpa using hac
          go_wp2_with fail
          go_quiet (fail)
          go_wp2_with fail
          go_quiet (fail)
          go_wp2
          go_ret
          exact ⟨rfl, R3.out, ((B3.out.drn _).drn _).bx b⟩

set_option maxRecDepth 100000 in
set_option maxHeartbeats 4000000 in
theorem acked_at1 (b me n : Nat) (p : Pc) (x : Ext) (c0 c1 c2 c3 c4 : UInt8) (ok fm : Bool) (cn : Nat) (er : Int) (x' : Ext) (y : ByteArray) (w : World) (hy : y = ⟨#[c0, c1, c2, c3, c4]⟩) (hok : ok = (hdOk c1 c2 c3 c4 && ([c0] == [(65 : UInt8)]))) (hf : c1.toNat - 48 = 1) (hc : cn = (c3.toNat - 48) * 10 + (c4.toNat - 48)) (hfm : fm = forMe me n 1 (c2.toNat - 48)) (hS : AckSpec ok fm 1 cn x er x') (hh : x.had < 100)
    (h : w.heap[b]? = some (.cells (repArr me n p x) 69)) (hdo : hdOk c1 c2 c3 c4 = true) (hk : x.ack 1 < 1000) (hcn : cn < 100) :
    Calls Tryz.prog 58 #[.pointer (some ⟨b, 0, none⟩), .string y] w fun e w' => e = .returned (.int .i64 er) ∧ RepTo b me n p x' w w' := by
  have HRH := hid (readHead_any c0 c1 c2 c3 c4 true _ w (by rw [hdo]) rfl)
  rw [if_pos rfl, ← hy, hf, ← hc] at HRH
  have HF := hid (fun wx hw => isForMe_any b me n 1 (c2.toNat - 48) cn [c0] p x wx hw)
  rw [← hfm] at HF
  have S := hid hS
  have H := hid h
  have hbl := lt_of_blk h
  rw [hdo, Bool.true_and] at hok
  have HOK := hid hok
  generalize (c2.toNat - 48) = tt at *
  unfold headArr at *
  cases hk0 : ([c0] == [(65 : UInt8)])
  · have k0 : ([c0] != [(65 : UInt8)]) = true := by rw [bne, hk0]; rfl
    obtain ⟨e1, e2⟩ := hS.h5 (by rw [hok, hk0])
    subst e1 e2
    clear hok hS S h hy hf hc hfm hdo HF HOK
    go_enter Tryz.func58, Tryz.ntmps58
    go_wp2_with fail
    refine HRH.out.mono ?_
    rintro e w1 ⟨rfl, b1⟩
    have B1 := hid b1
    clear b1
    go_wp2
    go_ret
    exact ⟨rfl, (B1.out.al _).bk' H.out, (B1.out.al _).bx b⟩
  · have k0 : ([c0] != [(65 : UInt8)]) = false := by rw [bne, hk0]; rfl
    have OK : Hid (ok = true) := by show _ = _; rw [hok, hk0]
    clear hok hS h hy hf hc hfm hdo HOK
    go_enter Tryz.func58, Tryz.ntmps58
    go_wp2_with fail
    refine HRH.out.mono ?_
    rintro e w1 ⟨rfl, b1⟩
    have G1 := hid (hp_new w1 (.cells #[.string ⟨[c0].toArray⟩, .int .i64 ((1 : Nat) : Int), .int .i64 tt, .int .i64 cn] 71))
    have B1 : Hid (Blw w (w1.alloc (.cells #[.string ⟨[c0].toArray⟩, .int .i64 ((1 : Nat) : Int), .int .i64 tt, .int .i64 cn] 71))) := b1.al _
    clear b1
    go_wp2_with fail
    refine (HF.out _ (B1.out.bk' H.out)).mono ?_
    rintro e w3 ⟨rfl, b3⟩
    have B3 := hid (B1.out.tr b3)
    have G3 := hid (b3.bk' G1.out)
    have R3 := hid (B3.out.bk' H.out)
    generalize w1.heap.size = hb at *
    clear b3 G1 B1
    cases fm
    · obtain ⟨e1, e2⟩ := S.out.h6 OK.out (by trivial)
      subst e1 e2
      go_wp2
      go_ret
      exact ⟨rfl, R3.out, B3.out.bx b⟩
    · have a1 : w3.cell? ⟨hb, 1, none⟩ = some (.int .i64 ((1 : Nat) : Int)) := blk_cell G3.out 1
      have a3 : w3.cell? ⟨hb, 3, none⟩ = some (.int .i64 cn) := blk_cell G3.out 3
      have c3' := rep_had R3.out
      have ck := rep_ack R3.out 1 (by omega)
      simp only [Nat.reduceAdd, Nat.add_zero] at ck
      have fz := blk_frozen R3.out 681
      by_cases hhd : x.had < cn
      · obtain ⟨e1, e2⟩ := S.out.h9 OK.out (by trivial) hhd
        subst e1 e2
        have d1 : decide ((x'.had : Int) < (cn : Int)) = true := by simpa using hhd
        go_wp2_with fail
        go_quiet (fail)
        go_wp2
        go_ret
        exact ⟨rfl, R3.out, (B3.out.drn _).bx b⟩
      · have d1 : decide ((x.had : Int) < (cn : Int)) = false := by simpa using hhd
        by_cases hac : x.ack 1 < cn
        · obtain ⟨e1, e2⟩ := S.out.h1 OK.out (by trivial) (by omega) hac
          have E2 := hid e2
          subst e1
          have d2 : decide ((x.ack 1 : Int) < (cn : Int)) = true := by simpa using hac
          go_wp2_with fail
          go_quiet (fail)
          go_wp2_with fail
          go_quiet (fail)
          go_wp2_with fail
          go_region
          go_wp2
          go_ret
          refine ⟨rfl, ?_, ((B3.out.drn _).bx b).sc _ _⟩
          rw [E2.out]
          exact rep_put_ack1 (((Blw.rfl w3).drn _).bk' R3.out) cn
        · obtain ⟨e1, e2⟩ := S.out.h0 OK.out (by trivial) (by omega) (by omega)
          subst e1 e2
          have d2 : decide ((x'.ack 1 : Int) < (cn : Int)) = false := by simpa using hac
          go_wp2_with fail
          go_quiet (fail)
          go_wp2_with fail
          go_quiet (fail)
          go_wp2
          go_ret
          exact ⟨rfl, R3.out, ((B3.out.drn _).drn _).bx b⟩

set_option maxRecDepth 100000 in
set_option maxHeartbeats 4000000 in
theorem acked_at2 (b me n : Nat) (p : Pc) (x : Ext) (c0 c1 c2 c3 c4 : UInt8) (ok fm : Bool) (cn : Nat) (er : Int) (x' : Ext) (y : ByteArray) (w : World) (hy : y = ⟨#[c0, c1, c2, c3, c4]⟩) (hok : ok = (hdOk c1 c2 c3 c4 && ([c0] == [(65 : UInt8)]))) (hf : c1.toNat - 48 = 2) (hc : cn = (c3.toNat - 48) * 10 + (c4.toNat - 48)) (hfm : fm = forMe me n 2 (c2.toNat - 48)) (hS : AckSpec ok fm 2 cn x er x') (hh : x.had < 100)
    (h : w.heap[b]? = some (.cells (repArr me n p x) 69)) (hdo : hdOk c1 c2 c3 c4 = true) (hk : x.ack 2 < 1000) (hcn : cn < 100) :
    Calls Tryz.prog 58 #[.pointer (some ⟨b, 0, none⟩), .string y] w fun e w' => e = .returned (.int .i64 er) ∧ RepTo b me n p x' w w' := by
  have HRH := hid (readHead_any c0 c1 c2 c3 c4 true _ w (by rw [hdo]) rfl)
  rw [if_pos rfl, ← hy, hf, ← hc] at HRH
  have HF := hid (fun wx hw => isForMe_any b me n 2 (c2.toNat - 48) cn [c0] p x wx hw)
  rw [← hfm] at HF
  have S := hid hS
  have H := hid h
  have hbl := lt_of_blk h
  rw [hdo, Bool.true_and] at hok
  have HOK := hid hok
  generalize (c2.toNat - 48) = tt at *
  unfold headArr at *
  cases hk0 : ([c0] == [(65 : UInt8)])
  · have k0 : ([c0] != [(65 : UInt8)]) = true := by rw [bne, hk0]; rfl
    obtain ⟨e1, e2⟩ := hS.h5 (by rw [hok, hk0])
    subst e1 e2
    clear hok hS S h hy hf hc hfm hdo HF HOK
    go_enter Tryz.func58, Tryz.ntmps58
    go_wp2_with fail
    refine HRH.out.mono ?_
    rintro e w1 ⟨rfl, b1⟩
    have B1 := hid b1
    clear b1
    go_wp2
    go_ret
    exact ⟨rfl, (B1.out.al _).bk' H.out, (B1.out.al _).bx b⟩
  · have k0 : ([c0] != [(65 : UInt8)]) = false := by rw [bne, hk0]; rfl
    have OK : Hid (ok = true) := by show _ = _; rw [hok, hk0]
    clear hok hS h hy hf hc hfm hdo HOK
    go_enter Tryz.func58, Tryz.ntmps58
    go_wp2_with fail
    refine HRH.out.mono ?_
    rintro e w1 ⟨rfl, b1⟩
    have G1 := hid (hp_new w1 (.cells #[.string ⟨[c0].toArray⟩, .int .i64 ((2 : Nat) : Int), .int .i64 tt, .int .i64 cn] 71))
    have B1 : Hid (Blw w (w1.alloc (.cells #[.string ⟨[c0].toArray⟩, .int .i64 ((2 : Nat) : Int), .int .i64 tt, .int .i64 cn] 71))) := b1.al _
    clear b1
    go_wp2_with fail
    refine (HF.out _ (B1.out.bk' H.out)).mono ?_
    rintro e w3 ⟨rfl, b3⟩
    have B3 := hid (B1.out.tr b3)
    have G3 := hid (b3.bk' G1.out)
    have R3 := hid (B3.out.bk' H.out)
    generalize w1.heap.size = hb at *
    clear b3 G1 B1
    cases fm
    · obtain ⟨e1, e2⟩ := S.out.h6 OK.out (by trivial)
      subst e1 e2
      go_wp2
      go_ret
      exact ⟨rfl, R3.out, B3.out.bx b⟩
    · have a1 : w3.cell? ⟨hb, 1, none⟩ = some (.int .i64 ((2 : Nat) : Int)) := blk_cell G3.out 1
      have a3 : w3.cell? ⟨hb, 3, none⟩ = some (.int .i64 cn) := blk_cell G3.out 3
      have c3' := rep_had R3.out
      have ck := rep_ack R3.out 2 (by omega)
      simp only [Nat.reduceAdd, Nat.add_zero] at ck
      have fz := blk_frozen R3.out 682
      by_cases hhd : x.had < cn
      · obtain ⟨e1, e2⟩ := S.out.h9 OK.out (by trivial) hhd
        subst e1 e2
        have d1 : decide ((x'.had : Int) < (cn : Int)) = true := by simpa using hhd
        go_wp2_with fail
        go_quiet (fail)
        go_wp2
        go_ret
        exact ⟨rfl, R3.out, (B3.out.drn _).bx b⟩
      · have d1 : decide ((x.had : Int) < (cn : Int)) = false := by simpa using hhd
        by_cases hac : x.ack 2 < cn
        · obtain ⟨e1, e2⟩ := S.out.h1 OK.out (by trivial) (by omega) hac
          have E2 := hid e2
          subst e1
          have d2 : decide ((x.ack 2 : Int) < (cn : Int)) = true := by simpa using hac
          go_wp2_with fail
          go_quiet (fail)
          go_wp2_with fail
          go_quiet (fail)
          go_wp2_with fail
          go_region
          go_wp2
          go_ret
          refine ⟨rfl, ?_, ((B3.out.drn _).bx b).sc _ _⟩
          rw [E2.out]
          exact rep_put_ack2 (((Blw.rfl w3).drn _).bk' R3.out) cn
        · obtain ⟨e1, e2⟩ := S.out.h0 OK.out (by trivial) (by omega) (by omega)
          subst e1 e2
          have d2 : decide ((x'.ack 2 : Int) < (cn : Int)) = false := by simpa using hac
          go_wp2_with fail
          go_quiet (fail)
          go_wp2_with fail
          go_quiet (fail)
          go_wp2
          go_ret
          exact ⟨rfl, R3.out, ((B3.out.drn _).drn _).bx b⟩
end Go.Proofs.YtalaldfgjgpacaaGreatDoor
