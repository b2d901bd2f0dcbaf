import Derived.Test.YtalaldfgjgpacaaGreatDoorJA
namespace Go.Proofs.YtalaldfgjgpacaaGreatDoor
set_option linter.unusedVariables false
set_option linter.unusedSimpArgs false
open Go.RowKit
attribute [local go_sem ↓] Go.wp_at_zero Go.wp_at_succ

set_option maxRecDepth 100000 in
set_option maxHeartbeats 4000000 in
theorem readFrame_any (b me n : Nat) (h0 : Pc) (x : Ext) (l : Bs) (first : Bool) (w : World) (hl : l.length ≤ 1000000) (hn : n ≤ 3) (hx : x.small) (ht : Tab Tryz.prog w) (h : w.heap[b]? = some (.cells (repArr me n h0 x) 69)) :
    Calls Tryz.prog 136 #[.pointer (some ⟨b, 0, none⟩), .string ⟨l.toArray⟩, .bool first] w fun e w' => e = .returned (.bool (stepOk n first h0 l)) ∧ RepTo b me n (stepTo n first h0 l) (stepX n first h0 x l) w w' := by
  obtain ⟨sk, hsk⟩ : ∃ sk, sk = stepOk n first h0 l := ⟨_, rfl⟩
  obtain ⟨st, hst⟩ : ∃ st, st = stepTo n first h0 l := ⟨_, rfl⟩
  obtain ⟨sx, hsx⟩ : ∃ sx, sx = stepX n first h0 x l := ⟨_, rfl⟩
  rw [← hsk, ← hst, ← hsx]
  have H := hid h
  cases l with
  | nil =>
    have HE : Hid (sk = false ∧ st = h0 ∧ sx = x) := ⟨hsk, hst, hsx⟩
    clear hsk hst hsx h ht hx hn
    go_enter Tryz.func136, Tryz.ntmps136
    go_wp2
    go_ret
    rw [HE.out.1, HE.out.2.1, HE.out.2.2]
    exact ⟨rfl, ⟨H.out, Bx.rfl b w⟩⟩
  | cons c t =>
    obtain ⟨y, hy⟩ : ∃ y : ByteArray, y = ⟨(c :: t).toArray⟩ := ⟨_, rfl⟩
    have hys : y.size = t.length + 1 := by rw [hy, bs_size]; rfl
    have h0y : 0 < y.size := by omega
    have hb0 : y[0]'h0y = c := by subst hy; rfl
    have hyne : (y.toList == []) = false := by rw [hy, bs_toList]; rfl
    have HXt : Hid (y.extract 1 y.size = ByteArray.mk t.toArray) := by
      show _ = _
      rw [hys, hy]
      exact (bs_extract (c :: t) 1 _).trans (by simp)
    have HD := hid (fun wx ht' hw => readDelta_any b me n h0 x t wx (by simp at hl; omega) hn hx ht' hw)
    have HW := hid (fun wx ht' hw => readWhole_any b me n h0 x t wx (by simp at hl; omega) hn ht' hw)
    have T := hid ht
    have HYS := hid hys
    have g1 : (1 : Int) ≤ (y.size : Int) := by omega
    have g1' : 1 ≤ y.size := by omega
    rw [← hy]
    have SK := hid hsk
    have ST := hid hst
    have SX := hid hsx
    clear hy h ht hx hn hl hys hsk hst hsx
    by_cases h68 : c = 68
    · have HE : Hid (sk = deltaOk n h0 t ∧ st = deltaTo n h0 t ∧ sx = deltaX n h0 x t) := by
        refine ⟨?_, ?_, ?_⟩
        · rw [SK.out, stepOk, if_pos h68]
        · rw [ST.out, stepTo, if_pos h68]
        · rw [SX.out, stepX, if_pos h68]
      have c68 : ((c.toNat : Int) == 68) = true := by rw [h68]; rfl
      clear h68
      generalize deltaOk n h0 t = dk at *
      generalize deltaTo n h0 t = dt at *
      generalize deltaX n h0 x t = dx at *
      go_enter Tryz.func136, Tryz.ntmps136
      go_wp2_with fail
      rw [HXt.out]
      refine (HD.out _ T.out H.out).mono ?_
      rintro e w1 ⟨rfl, r1⟩
      have R1 := hid r1
      clear r1
      go_wp2
      go_ret
      rw [HE.out.1, HE.out.2.1, HE.out.2.2]
      exact ⟨rfl, R1.out⟩
    · have c68 : ((c.toNat : Int) == 68) = false := by
        rw [beq_eq_false_iff_ne]; intro e; exact h68 (UInt8.toNat_inj.1 (by show c.toNat = 68; omega))
      by_cases h83 : c = 83
      · have c83 : ((c.toNat : Int) == 83) = true := by rw [h83]; rfl
        have HNO := hid h68
        have HYE := hid h83
        cases first
        · have HE : Hid (sk = false ∧ st = h0 ∧ sx = x) := by
            refine ⟨?_, ?_, ?_⟩
            · rw [SK.out, stepOk, if_neg HNO.out]; simp
            · rw [ST.out, stepTo, if_neg HNO.out]; simp
            · rw [SX.out, stepX, if_neg HNO.out]; simp
          clear h68 h83 SK ST SX HNO HYE
          go_enter Tryz.func136, Tryz.ntmps136
          go_wp2
          go_ret
          rw [HE.out.1, HE.out.2.1, HE.out.2.2]
          exact ⟨rfl, ⟨H.out, Bx.rfl b w⟩⟩
        · have HE : Hid (sk = wholeOk n h0 t ∧ st = wholeTo n h0 t ∧ sx = wholeX n h0 x t) := by
            refine ⟨?_, ?_, ?_⟩
            · rw [SK.out, stepOk, if_neg HNO.out, HYE.out]; simp
            · rw [ST.out, stepTo, if_neg HNO.out, HYE.out]; simp
            · rw [SX.out, stepX, if_neg HNO.out, HYE.out]; simp
          clear h68 h83 SK ST SX HNO HYE
          generalize wholeOk n h0 t = dk at *
          generalize wholeTo n h0 t = dt at *
          generalize wholeX n h0 x t = dx at *
          go_enter Tryz.func136, Tryz.ntmps136
          go_wp2_with fail
          rw [HXt.out]
          refine (HW.out _ T.out H.out).mono ?_
          rintro e w1 ⟨rfl, r1⟩
          have R1 := hid r1
          clear r1
          go_wp2
          go_ret
          rw [HE.out.1, HE.out.2.1, HE.out.2.2]
          exact ⟨rfl, R1.out⟩
      · have c83 : ((c.toNat : Int) == 83) = false := by
          rw [beq_eq_false_iff_ne]; intro e; exact h83 (UInt8.toNat_inj.1 (by show c.toNat = 83; omega))
        have HE : Hid (sk = false ∧ st = h0 ∧ sx = x) := by
          refine ⟨?_, ?_, ?_⟩
          · rw [SK.out, stepOk, if_neg h68]; simp [h83]
          · rw [ST.out, stepTo, if_neg h68]; simp [h83]
          · rw [SX.out, stepX, if_neg h68]; simp [h83]
        clear h68 h83 SK ST SX
        go_enter Tryz.func136, Tryz.ntmps136
        go_wp2
        go_ret
        rw [HE.out.1, HE.out.2.1, HE.out.2.2]
        exact ⟨rfl, ⟨H.out, Bx.rfl b w⟩⟩
end Go.Proofs.YtalaldfgjgpacaaGreatDoor

namespace Go.Proofs.YtalaldfgjgpacaaGreatDoor
set_option linter.unusedVariables false
set_option linter.unusedSimpArgs false
open Go.RowKit
attribute [local go_sem ↓] Go.wp_at_zero Go.wp_at_succ

theorem run_zero {n : Nat} {log : Bs} {a : Nat} {h : Pc} {x : Ext} (hs : logSt n log a h = 0) (f : Nat) : logRun n log (f + 1) a h x = ⟨true, a, h, x⟩ := by rw [logRun, if_pos hs]
theorem run_one {n : Nat} {log : Bs} {a : Nat} {h : Pc} {x : Ext} (hs : logSt n log a h = 1) (f : Nat) : logRun n log (f + 1) a h x = ⟨false, a, h, x⟩ := by rw [logRun, if_neg (by rw [hs]; decide), if_pos hs]
theorem run_two {n : Nat} {log : Bs} {a : Nat} {h : Pc} {x : Ext} (hs : logSt n log a h = 2) (f : Nat) : logRun n log (f + 1) a h x = logRun n log f (a + 3 + frLen log a) (stepTo n (a == 0) h (frBody log a)) (stepX n (a == 0) h x (frBody log a)) := by
  rw [logRun, if_neg (by rw [hs]; decide), if_neg (by rw [hs]; decide)]
theorem st_short {n : Nat} {log : Bs} {a : Nat} {h : Pc} (hs : log.length < a + 3) : logSt n log a h = 0 := by unfold logSt; rw [if_pos hs]
theorem st_nodig {n : Nat} {log : Bs} {a : Nat} {h : Pc} (hs : ¬ log.length < a + 3) (hd : okD ((log.drop a).take 3) = false) : logSt n log a h = 1 := by
  unfold logSt; rw [if_neg hs, if_neg (by rw [hd]; decide)]
theorem st_cut {n : Nat} {log : Bs} {a : Nat} {h : Pc} (hs : ¬ log.length < a + 3) (hd : okD ((log.drop a).take 3) = true) (hc : log.length < a + 3 + frLen log a) : logSt n log a h = 0 := by
  unfold logSt; rw [if_neg hs, if_pos hd, if_pos hc]
theorem st_bad {n : Nat} {log : Bs} {a : Nat} {h : Pc} (hs : ¬ log.length < a + 3) (hd : okD ((log.drop a).take 3) = true) (hc : ¬ log.length < a + 3 + frLen log a) (ho : stepOk n (a == 0) h (frBody log a) = false) : logSt n log a h = 1 := by
  unfold logSt; rw [if_neg hs, if_pos hd, if_neg hc, if_neg (by rw [ho]; decide)]
theorem st_good {n : Nat} {log : Bs} {a : Nat} {h : Pc} (hs : ¬ log.length < a + 3) (hd : okD ((log.drop a).take 3) = true) (hc : ¬ log.length < a + 3 + frLen log a) (ho : stepOk n (a == 0) h (frBody log a) = true) : logSt n log a h = 2 := by
  unfold logSt; rw [if_neg hs, if_pos hd, if_neg hc, if_pos ho]

/-- Behind a log that was read. -/
structure LogEnd (b me n : Nat) (F : LR) (w w' : World) : Prop where
  bx : Bx b w w'
  blk : F.ok = true → w'.heap[b]? = some (.cells (repArr me n F.h F.x) 69)

/-- Within it. -/
structure LogMid (b me n : Nat) (log : Bs) (F : LR) (a : Nat) (h : Pc) (x : Ext) (w wr : World) : Prop where
  bx : Bx b w wr
  blk : wr.heap[b]? = some (.cells (repArr me n h x) 69)
  inv : LInv log a h x
  run : ∃ f, logRun n log (f + 1) a h x = F ∧ log.length ≤ a + f

set_option maxRecDepth 100000 in
set_option maxHeartbeats 4000000 in
theorem readLog_any (b me n : Nat) (log : Bs) (F : LR) (w : World) (hF : F = logRun n log (log.length + 1) 0 Pc.empty Ext.zero) (hl : log.length ≤ 9000) (hn : n ≤ 3) (ht : Tab Tryz.prog w) (h : w.heap[b]? = some (.cells (repArr me n Pc.empty Ext.zero) 69)) :
    Calls Tryz.prog 84 #[.pointer (some ⟨b, 0, none⟩), .string ⟨log.toArray⟩] w fun e w' => e = .returned (.bool F.ok) ∧ LogEnd b me n F w w' := by
  obtain ⟨y, hy⟩ : ∃ y : ByteArray, y = ⟨log.toArray⟩ := ⟨_, rfl⟩
  have hys : y.size = log.length := by rw [hy, bs_size]
  have HX : Hid (∀ i j, y.extract i j = ByteArray.mk ((log.drop i).take (j - i)).toArray) := by rw [hy]; exact fun i j => bs_extract log i j
  have HYS := hid hys
  have hl' : y.size ≤ 9000 := by omega
  rw [← hy]
  have T := hid ht
  have H := hid h
  have M0 : Hid (LogMid b me n log F 0 Pc.empty Ext.zero w w) := ⟨Bx.rfl b w, h, LInv.start log, ⟨log.length, hF.symm, by omega⟩⟩
  clear hy hys hl ht h hF
  go_enter Tryz.func84, Tryz.ntmps84
  go_wp2_with fail
  go_loopw [5] (fun i wr => ∃ (a : Nat) (hh : Pc) (x : Ext), i = .int .i64 (a : Int) ∧ a ≤ y.size ∧ LogMid b me n log F a hh x w wr) (fun i _ => y.size - (intOf i).toNat)
  case atStart => exact ⟨0, Pc.empty, Ext.zero, rfl, by omega, M0.out⟩
  case round =>
    clear M0
    obtain ⟨a, hh, x, rfl, ha, hM⟩ := hrel
    have M := hid hM
    obtain ⟨f, hf⟩ := hM.run
    have HF := hid hf
    clear hM hf
    by_cases h3 : log.length < a + 3
    · have E : Hid (F = ⟨true, a, hh, x⟩) := by show _ = _; rw [← HF.out.1]; exact run_zero (st_short h3) f
      have E1 : Hid (F.ok = true) := by show _ = _; rw [E.out]
      have g3 : (y.size : Int) - (a : Int) < 3 := by have := HYS.out; omega
      go_wp2
      go_ret
      exact ⟨by rw [E1.out]; rfl, M.out.bx, fun _ => by rw [E.out]; exact M.out.blk⟩
    · have g3 : ¬ ((y.size : Int) - (a : Int) < 3) := by have := HYS.out; omega
      have g3' : (3 : Int) ≤ (y.size : Int) - (a : Int) := by omega
      have hay : a + 3 ≤ y.size := by have := HYS.out; omega
      have HX1 : Hid (y.extract a (a + 3) = ByteArray.mk ((log.drop a).take 3).toArray) := by show _ = _; rw [HX.out]; simp
      have hdl : ((log.drop a).take 3).length = 3 := by have := HYS.out; simp; omega
      have HD := hid (fun wx => dread_any ((log.drop a).take 3) wx (by omega))
      rw [hdl] at HD
      have NB := hid (fun ho : okD ((log.drop a).take 3) = true => numTo_ok ((log.drop a).take 3) ho)
      rw [hdl] at NB
      have HN1 := hid (fun ho => run_one (x := x) (st_nodig (n := n) (h := hh) h3 ho) f)
      have HN2 := hid (fun ho hc => run_zero (x := x) (st_cut (n := n) (h := hh) h3 ho hc) f)
      have HN3 := hid (fun ho hc hs => run_one (x := x) (st_bad (n := n) (h := hh) h3 ho hc hs) f)
      have HN4 := hid (fun ho hc hs => run_two (x := x) (st_good (n := n) (h := hh) h3 ho hc hs) f)
      have HN5 := hid (fun ho hc hs => M.out.inv.next (n := n) (by rw [st_good h3 ho hc hs]; decide) (by rw [st_good h3 ho hc hs]; decide))
      have HFL : Hid (frLen log a = numTo ((log.drop a).take 3) 3) := rfl
      have s0 : (0 : Int) ≤ (a : Int) := Int.natCast_nonneg _
      have s1 : (a : Int) ≤ (a : Int) + 3 := by omega
      have s2 : (a : Int) + 3 ≤ (y.size : Int) := by omega
      have s3 : ((a : Int) + 3).toNat = a + 3 := by omega
      have s4 : (0 : Int) ≤ (a : Int) + 3 := by omega
      have s5 : IntKind.i64.wrap ((a : Int) + 3) = (a : Int) + 3 := by rw [IntKind.wrap_i64]; omega
      clear h3 hdl
      generalize okD ((log.drop a).take 3) = od at *
      generalize numTo ((log.drop a).take 3) 3 = k at *
      go_wp2_with fail
      rw [HX1.out]
      refine (HD.out _).mono ?_
      rintro e w1 ⟨rfl, hw1⟩
      subst w1
      cases od
      · have E : Hid (F = ⟨false, a, hh, x⟩) := by show _ = _; rw [← HF.out.1]; exact HN1.out rfl
        have E1 : Hid (F.ok = false) := by show _ = _; rw [E.out]
        go_wp2
        go_ret
        exact ⟨by rw [E1.out]; rfl, M.out.bx, fun h => by rw [E1.out] at h; cases h⟩
      · have nk := NB.out rfl
        simp only [if_true]
        by_cases hc : log.length < a + 3 + frLen log a
        · have E : Hid (F = ⟨true, a, hh, x⟩) := by show _ = _; rw [← HF.out.1]; exact HN2.out rfl hc
          have E1 : Hid (F.ok = true) := by show _ = _; rw [E.out]
          have gc : (y.size : Int) - ((a : Int) + 3) < (k : Int) := by have := HYS.out; have := HFL.out; omega
          clear hc
          go_wp2
          go_ret
          exact ⟨by rw [E1.out]; rfl, M.out.bx, fun _ => by rw [E.out]; exact M.out.blk⟩
        · have gc : ¬ ((y.size : Int) - ((a : Int) + 3) < (k : Int)) := by have := HYS.out; have := HFL.out; omega
          have hak : a + 3 + k ≤ y.size := by omega
          have HX2 : Hid (y.extract (a + 3) (a + 3 + k) = ByteArray.mk (frBody log a).toArray) := by show _ = _; rw [HX.out, frBody, HFL.out]; simp
          have hbl : (frBody log a).length ≤ 1000000 := by unfold frBody; have := HYS.out; simp; omega
          have hxs : x.small := ⟨by have := M.out.inv.had; have := size_le27 hh; omega, by rw [M.out.inv.log]; have := HYS.out; simp; omega⟩
          have HR := hid (fun wx ht' hw => readFrame_any b me n hh x (frBody log a) (a == 0) wx hbl hn hxs ht' hw)
          have HN3' := hid (HN3.out rfl hc)
          have HN4' := hid (HN4.out rfl hc)
          have HN5' := hid (HN5.out rfl hc)
          rw [HFL.out] at HN4' HN5'
          have hfi : ((a : Int) == 0) = (a == 0) := by
            rw [Bool.eq_iff_iff]; simp
          generalize (a == 0) = first at *
          generalize stepOk n first hh (frBody log a) = so at *
          generalize stepTo n first hh (frBody log a) = sto at *
          generalize stepX n first hh x (frBody log a) = sxo at *
          have u1 : (a : Int) + 3 ≤ (a : Int) + 3 + (k : Int) := by omega
          have u2 : (a : Int) + 3 + (k : Int) ≤ (y.size : Int) := by omega
          have u3 : ((a : Int) + 3 + (k : Int)).toNat = a + 3 + k := by omega
          have u4 : (0 : Int) ≤ (a : Int) + 3 + (k : Int) := by omega
          have u5 : IntKind.i64.wrap ((a : Int) + 3 + (k : Int)) = (a : Int) + 3 + (k : Int) := by rw [IntKind.wrap_i64]; omega
          clear hc hbl hxs HN1 HN2 HN3 HN4 HN5
          go_wp2_with fail
          rw [HX2.out]
          refine (HR.out _ (T.out.bx H.out M.out.bx) M.out.blk).mono ?_
          rintro e w1 ⟨rfl, r1⟩
          have R1 := hid r1
          clear r1
          cases so
          · have E : Hid (F = ⟨false, a, hh, x⟩) := by show _ = _; rw [← HF.out.1]; exact HN3'.out rfl
            have E1 : Hid (F.ok = false) := by show _ = _; rw [E.out]
            go_wp2
            go_ret
            exact ⟨by rw [E1.out]; rfl, Bx.tr M.out.bx R1.out.2, fun h => by rw [E1.out] at h; cases h⟩
          · have MN : Hid (LogMid b me n log F (a + 3 + k) sto sxo w w1) := by
              refine ⟨Bx.tr M.out.bx R1.out.2, R1.out.1, HN5'.out rfl, ?_⟩
              have hfl := HF.out.2
              obtain ⟨f', rfl⟩ : ∃ f', f = f' + 1 := ⟨f - 1, by have := HYS.out; omega⟩
              exact ⟨f', by rw [← HF.out.1]; exact (HN4'.out rfl).symm, by omega⟩
            go_wp2
            go_roundw
            case rel => exact ⟨a + 3 + k, sto, sxo, by go_num, by omega, MN.out⟩
            case measure => simp [intOf]; omega
end Go.Proofs.YtalaldfgjgpacaaGreatDoor

namespace Go.Proofs.YtalaldfgjgpacaaGreatDoor
set_option linter.unusedVariables false
set_option linter.unusedSimpArgs false
open Go.RowKit
attribute [local go_sem ↓] Go.wp_at_zero Go.wp_at_succ

theorem Bx.blw {w w' : World} {o : Obj} (h : Bx w.heap.size (w.alloc o) w') : Blw w w' := by
  have b : Blw w (w.alloc o) := (Blw.rfl w).al o
  exact ⟨h.os.trans b.os, h.tape.trans b.tape, h.output.trans b.output, Nat.le_trans b.sz h.size, fun k hk => (h.block k (Nat.lt_of_lt_of_le hk b.sz) (by omega)).trans (b.bk k hk)⟩

set_option maxRecDepth 100000 in
set_option maxHeartbeats 2000000 in
theorem open_no (a b : Int) (s : ByteArray) (w : World) (h : newOk a b = false) :
    Calls Tryz.prog 39 #[.int .i64 a, .int .i64 b, .string s] w fun e w' => e = .returned (.tuple #[.pointer none, .int .i64 1]) ∧ Blw w w' := by
  have HN := hid (fun wx => new_no a b wx h)
  clear h
  go_enter Tryz.func39, Tryz.ntmps39
  go_wp2_with fail
  refine (HN.out _).mono ?_
  rintro e w1 ⟨rfl, hw1⟩
  subst w1
  go_wp2
  go_ret2
  exact ⟨rfl, Blw.rfl _⟩

set_option maxRecDepth 100000 in
set_option maxHeartbeats 2000000 in
theorem open_long (me n : Nat) (s : ByteArray) (w : World) (hn : n ≤ 3) (hm : me < n) (hs : 9000 < s.size) (hs' : s.size ≤ maxLen) :
    Calls Tryz.prog 39 #[.int .i64 me, .int .i64 n, .string s] w fun e w' => e = .returned (.tuple #[.pointer none, .int .i64 10]) ∧ Blw w w' := by
  have HN := hid (fun wx => new_yes me n wx hn hm)
  unfold maxLen at hs'
  clear hn hm
  go_enter Tryz.func39, Tryz.ntmps39
  go_wp2_with fail
  refine (HN.out _).mono ?_
  rintro e w1 ⟨rfl, hw1⟩
  have B1 : Hid (Blw w w1) := by rw [hw1]; exact (Blw.rfl _).al _
  clear hw1
  go_wp2
  go_ret2
  exact ⟨rfl, B1.out⟩

set_option maxRecDepth 100000 in
set_option maxHeartbeats 2000000 in
theorem open_yes (me n : Nat) (log : Bs) (F : LR) (w : World) (hF : F = logRun n log (log.length + 1) 0 Pc.empty Ext.zero) (hl : log.length ≤ 9000) (hn : n ≤ 3) (hm : me < n) (ht : Tab Tryz.prog w) :
    Calls Tryz.prog 39 #[.int .i64 me, .int .i64 n, .string ⟨log.toArray⟩] w fun e w' => Blw w w' ∧ (F.ok = true ∧ e = .returned (.tuple #[.pointer (some ⟨w.heap.size, 0, none⟩), .int .i64 0]) ∧ w'.heap[w.heap.size]? = some (.cells (repArr me n F.h F.x) 69) ∨ F.ok = false ∧ e = .returned (.tuple #[.pointer none, .int .i64 10])) := by
  have HN := hid (fun wx => new_yes me n wx hn hm)
  have HL := hid (fun b wx ht' hw => readLog_any b me n log F wx hF hl hn ht' hw)
  obtain ⟨y, hy⟩ : ∃ y : ByteArray, y = ⟨log.toArray⟩ := ⟨_, rfl⟩
  have hys : y.size = log.length := by rw [hy, bs_size]
  have hy9 : y.size ≤ 9000 := by omega
  rw [← hy] at HL ⊢
  have T := hid ht
  clear hF hl hn hm ht hy hys
  go_enter Tryz.func39, Tryz.ntmps39
  go_wp2_with fail
  refine (HN.out _).mono ?_
  rintro e w1 ⟨rfl, hw1⟩
  have G1 : Hid (w1.heap[w.heap.size]? = some (.cells (repArr me n Pc.empty Ext.zero) 69)) := by rw [hw1]; exact hp_new _ _
  have B1 : Hid (Blw w w1) := by rw [hw1]; exact (Blw.rfl _).al _
  have XX : Hid (∀ w', Bx w.heap.size w1 w' → Blw w w') := by rw [hw1]; exact fun w' h => h.blw
  clear hw1
  go_wp2_with fail
  refine (HL.out _ _ (T.out.blw B1.out) G1.out).mono ?_
  rintro e w2 ⟨rfl, h2⟩
  have L2 := hid h2
  clear h2
  cases hok : F.ok
  · go_wp2
    go_ret2
    exact ⟨XX.out _ L2.out.bx, .inr ⟨hok, rfl⟩⟩
  · go_wp2
    go_ret2
    exact ⟨XX.out _ L2.out.bx, .inl ⟨hok, rfl, L2.out.blk hok⟩⟩
end Go.Proofs.YtalaldfgjgpacaaGreatDoor
