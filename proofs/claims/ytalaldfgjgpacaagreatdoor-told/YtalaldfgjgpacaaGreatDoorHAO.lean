import Derived.Test.YtalaldfgjgpacaaGreatDoorHAN
namespace Go.Proofs.YtalaldfgjgpacaaGreatDoor
set_option linter.unusedVariables false
set_option linter.unusedSimpArgs false
open Go.RowKit
attribute [local go_sem ↓] Go.wp_at_zero Go.wp_at_succ

theorem run_zero {n : Nat} {log : Bs} {a : Nat} {h : Pc} {x : Ext} (hs : logSt n log a h = 0) (f : Nat) : logRun n log (f + 1) a h x = ⟨true, a, h, x⟩ := by rw [logRun, if_pos hs]
theorem run_one {n : Nat} {log : Bs} {a : Nat} {h : Pc} {x : Ext} (hs : logSt n log a h = 1) (f : Nat) : logRun n log (f + 1) a h x = ⟨false, a, h, x⟩ := by rw [logRun, if_neg (by rw [hs]; decide), if_pos hs]
theorem run_two {n : Nat} {log : Bs} {a : Nat} {h : Pc} {x : Ext} (hs : logSt n log a h = 2) (f : Nat) : logRun n log (f + 1) a h x = logRun n log f (a + 3 + frLen log a) (stepTo n (a == 0) h (frBody log a)) (stepX n (a == 0) h x (frBody log a)) := by
  rw [logRun, if_neg (by rw [hs]; decide), if_neg (by rw [hs]; decide)]
theorem st_short {n : Nat} {log : Bs} {a : Nat} {h : Pc} (hs : log.length < a + 3) : logSt n log a h = 0 := by unfold logSt; rw [if_pos hs]
theorem st_nodig {n : Nat} {log : Bs} {a : Nat} {h : Pc} (hs : ¬ log.length < a + 3) (hd : okD ((log.drop a).take 3) = false) : logSt n log a h = 1 := by
  unfold logSt; rw [if_neg hs, if_neg (by rw [hd]; decide)]
theorem st_cut {n : Nat} {log : Bs} {a : Nat} {h : Pc} (hs : ¬ log.length < a + 3) (hd : okD ((log.drop a).take 3) = true) (hc : log.length < a + 3 + frLen log a) : logSt n log a h = 0 := by
  unfold logSt; rw [if_neg hs, if_pos hd, if_pos hc]
theorem st_bad {n : Nat} {log : Bs} {a : Nat} {h : Pc} (hs : ¬ log.length < a + 3) (hd : okD ((log.drop a).take 3) = true) (hc : ¬ log.length < a + 3 + frLen log a) (ho : stepOk n (a == 0) h (frBody log a) = false) : logSt n log a h = 1 := by
  unfold logSt; rw [if_neg hs, if_pos hd, if_neg hc, if_neg (by rw [ho]; decide)]
theorem st_good {n : Nat} {log : Bs} {a : Nat} {h : Pc} (hs : ¬ log.length < a + 3) (hd : okD ((log.drop a).take 3) = true) (hc : ¬ log.length < a + 3 + frLen log a) (ho : stepOk n (a == 0) h (frBody log a) = true) : logSt n log a h = 2 := by
  unfold logSt; rw [if_neg hs, if_pos hd, if_neg hc, if_pos ho]

/-- Behind a log that was read. -/
structure LogEnd (b me n : Nat) (F : LR) (w w' : World) : Prop where
  bx : Bx b w w'
  blk : F.ok = true → w'.heap[b]? = some (.cells (repArr me n F.h F.x) 69)

/-- Within it. -/
structure LogMid (b me n : Nat) (log : Bs) (F : LR) (a : Nat) (h : Pc) (x : Ext) (w wr : World) : Prop where
  bx : Bx b w wr
  blk : wr.heap[b]? = some (.cells (repArr me n h x) 69)
  inv : LInv log a h x
  run : ∃ f, logRun n log (f + 1) a h x = F ∧ log.length ≤ a + f

set_option maxRecDepth 100000 in
set_option maxHeartbeats 4000000 in
theorem readLog_any (b me n : Nat) (log : Bs) (F : LR) (w : World) (hF : F = logRun n log (log.length + 1) 0 Pc.empty Ext.zero) (hl : log.length ≤ 9000) (hn : n ≤ 3) (ht : Tab Tryz.prog w) (h : w.heap[b]? = some (.cells (repArr me n Pc.empty Ext.zero) 69)) :
    Calls Tryz.prog 84 #[.pointer (some ⟨b, 0, none⟩), .string ⟨log.toArray⟩] w fun e w' => e = .returned (.bool F.ok) ∧ LogEnd b me n F w w' := by
  obtain ⟨y, hy⟩ : ∃ y : ByteArray, y = ⟨log.toArray⟩ := ⟨_, rfl⟩
  have hys : y.size = log.length := by rw [hy, bs_size]
  have HX : Hid (∀ i j, y.extract i j = ByteArray.mk ((log.drop i).take (j - i)).toArray) := by rw [hy]; exact fun i j => bs_extract log i j
  have HYS := hid hys
  have hl' : y.size ≤ 9000 := by omega
  rw [← hy]
  have T := hid ht
  have H := hid h
  have M0 : Hid (LogMid b me n log F 0 Pc.empty Ext.zero w w) := ⟨Bx.rfl b w, h, LInv.start log, ⟨log.length, hF.symm, by omega⟩⟩
  clear hy hys hl ht h hF
  go_enter Tryz.func84, Tryz.ntmps84
  go_wp2_with fail
  go_loopw [5] (fun i wr => ∃ (a : Nat) (hh : Pc) (x : Ext), i = .int .i64 (a : Int) ∧ a ≤ y.size ∧ LogMid b me n log F a hh x w wr) (fun i _ => y.size - (intOf i).toNat)
  case atStart => exact ⟨0, Pc.empty, Ext.zero, rfl, by omega, M0.out⟩
  case round =>
    clear M0
    obtain ⟨a, hh, x, rfl, ha, hM⟩ := hrel
    have M := hid hM
    obtain ⟨f, hf⟩ := hM.run
    have HF := hid hf
    clear hM hf
    by_cases h3 : log.length < a + 3
    · have E : Hid (F = ⟨true, a, hh, x⟩) := by show _ = _; rw [← HF.out.1]; exact run_zero (st_short h3) f
      have E1 : Hid (F.ok = true) := by show _ = _; rw [E.out]
      have g3 : (y.size : Int) - (a : Int) < 3 := by have := HYS.out; omega
      go_wp2
      go_ret
      exact ⟨by rw [E1.out]; rfl, M.out.bx, fun _ => by rw [E.out]; exact M.out.blk⟩
    · have g3 : ¬ ((y.size : Int) - (a : Int) < 3) := by have := HYS.out; omega
      have g3' : (3 : Int) ≤ (y.size : Int) - (a : Int) := by omega
      have hay : a + 3 ≤ y.size := by have := HYS.out; omega
      have HX1 : Hid (y.extract a (a + 3) = ByteArray.mk ((log.drop a).take 3).toArray) := by show _ = _; rw [HX.out]; simp
      have hdl : ((log.drop a).take 3).length = 3 := by have := HYS.out; simp; omega
      have HD := hid (fun wx => dread_any ((log.drop a).take 3) wx (by omega))
      rw [hdl] at HD
      have NB := hid (fun ho : okD ((log.drop a).take 3) = true => numTo_ok ((log.drop a).take 3) ho)
      rw [hdl] at NB
      have HN1 := hid (fun ho => run_one (x := x) (st_nodig (n := n) (h := hh) h3 ho) f)
      have HN2 := hid (fun ho hc => run_zero (x := x) (st_cut (n := n) (h := hh) h3 ho hc) f)
      have HN3 := hid (fun ho hc hs => run_one (x := x) (st_bad (n := n) (h := hh) h3 ho hc hs) f)
      have HN4 := hid (fun ho hc hs => run_two (x := x) (st_good (n := n) (h := hh) h3 ho hc hs) f)
      have HN5 := hid (fun ho hc hs => M.out.inv.next (n := n) (by rw [st_good h3 ho hc hs]; decide) (by rw [st_good h3 ho hc hs]; decide))
      have HFL : Hid (frLen log a = numTo ((log.drop a).take 3) 3) := rfl
      have s0 : (0 : Int) ≤ (a : Int) := Int.natCast_nonneg _
      have s1 : (a : Int) ≤ (a : Int) + 3 := by omega
      have s2 : (a : Int) + 3 ≤ (y.size : Int) := by omega
      have s3 : ((a : Int) + 3).toNat = a + 3 := by omega
      have s4 : (0 : Int) ≤ (a : Int) + 3 := by omega
      have s5 : IntKind.i64.wrap ((a : Int) + 3) = (a : Int) + 3 := by rw [IntKind.wrap_i64]; omega
      clear h3 hdl
      generalize okD ((log.drop a).take 3) = od at *
      generalize numTo ((log.drop a).take 3) 3 = k at *
      go_wp2_with fail
      rw [HX1.out]
      refine (HD.out _).mono ?_
      rintro e w1 ⟨rfl, hw1⟩
      subst w1
      cases od
      · have E : Hid (F = ⟨false, a, hh, x⟩) := by show _ = _; rw [← HF.out.1]; exact HN1.out rfl
        have E1 : Hid (F.ok = false) := by show _ = _; rw [E.out]
        go_wp2
        go_ret
        exact ⟨by rw [E1.out]; rfl, M.out.bx, fun h => by rw [E1.out] at h; cases h⟩
      · have nk := NB.out rfl
        simp only [if_true]
        by_cases hc : log.length < a + 3 + frLen log a
        · have E : Hid (F = ⟨true, a, hh, x⟩) := by show _ = _; rw [← HF.out.1]; exact HN2.out rfl hc
          have E1 : Hid (F.ok = true) := by show _ = _; rw [E.out]
          have gc : (y.size : Int) - ((a : Int) + 3) < (k : Int) := by have := HYS.out; have := HFL.out; omega
          clear hc
          go_wp2
          go_ret
          exact ⟨by rw [E1.out]; rfl, M.out.bx, fun _ => by rw [E.out]; exact M.out.blk⟩
        · have gc : ¬ ((y.size : Int) - ((a : Int) + 3) < (k : Int)) := by have := HYS.out; have := HFL.out; omega
          have hak : a + 3 + k ≤ y.size := by omega
          have HX2 : Hid (y.extract (a + 3) (a + 3 + k) = ByteArray.mk (frBody log a).toArray) := by show _ = _; rw [HX.out, frBody, HFL.out]; simp
          have hbl : (frBody log a).length ≤ 1000000 := by unfold frBody; have := HYS.out; simp; omega
          have hxs : x.small := ⟨by have := M.out.inv.had; have := size_le27 hh; omega, by rw [M.out.inv.log]; have := HYS.out; simp; omega⟩
          have HR := hid (fun wx ht' hw => readFrame_any b me n hh x (frBody log a) (a == 0) wx hbl hn hxs ht' hw)
          have HN3' := hid (HN3.out rfl hc)
          have HN4' := hid (HN4.out rfl hc)
          have HN5' := hid (HN5.out rfl hc)
          rw [HFL.out] at HN4' HN5'
          have hfi : ((a : Int) == 0) = (a == 0) := by
            rw [Bool.eq_iff_iff]; simp
          generalize (a == 0) = first at *
          generalize stepOk n first hh (frBody log a) = so at *
          generalize stepTo n first hh (frBody log a) = sto at *
          generalize stepX n first hh x (frBody log a) = sxo at *
          have u1 : (a : Int) + 3 ≤ (a : Int) + 3 + (k : Int) := by omega
          have u2 : (a : Int) + 3 + (k : Int) ≤ (y.size : Int) := by omega
          have u3 : ((a : Int) + 3 + (k : Int)).toNat = a + 3 + k := by omega
          have u4 : (0 : Int) ≤ (a : Int) + 3 + (k : Int) := by omega
          have u5 : IntKind.i64.wrap ((a : Int) + 3 + (k : Int)) = (a : Int) + 3 + (k : Int) := by rw [IntKind.wrap_i64]; omega
          clear hc hbl hxs HN1 HN2 HN3 HN4 HN5
          go_wp2_with fail
          rw [HX2.out]
          refine (HR.out _ (T.out.bx H.out M.out.bx) M.out.blk).mono ?_
          rintro e w1 ⟨rfl, r1⟩
          have R1 := hid r1
          clear r1
          cases so
          · have E : Hid (F = ⟨false, a, hh, x⟩) := by show _ = _; rw [← HF.out.1]; exact HN3'.out rfl
            have E1 : Hid (F.ok = false) := by show _ = _; rw [E.out]
            go_wp2
            go_ret
            exact ⟨by rw [E1.out]; rfl, Bx.tr M.out.bx R1.out.2, fun h => by rw [E1.out] at h; cases h⟩
          · have MN : Hid (LogMid b me n log F (a + 3 + k) sto sxo w w1) := by
              refine ⟨Bx.tr M.out.bx R1.out.2, R1.out.1, HN5'.out rfl, ?_⟩
              have hfl := HF.out.2
              obtain ⟨f', rfl⟩ : ∃ f', f = f' + 1 := ⟨f - 1, by have := HYS.out; omega⟩
              exact ⟨f', by rw [← HF.out.1]; exact (HN4'.out rfl).symm, by omega⟩
            go_wp2
            go_roundw
            case rel => exact ⟨a + 3 + k, sto, sxo, by go_num, by omega, MN.out⟩
            case measure => simp [intOf]; omega
end Go.Proofs.YtalaldfgjgpacaaGreatDoor

namespace Go.Proofs.YtalaldfgjgpacaaGreatDoor
set_option linter.unusedVariables false
set_option linter.unusedSimpArgs false
open Go.RowKit

theorem Bx.keep {b : Nat} {a w : World} (h : Bx b a w) {k : Nat} {o : Obj} (hk : a.heap[k]? = some o) (hb : k ≠ b) : w.heap[k]? = some o := (h.block k (lt_of_blk hk) hb).trans hk

/-- Numbers as cells. -/
def intsV (ks : List Int) : Array Value := (ks.map fun k => Value.int .i64 k).toArray

theorem copied_any (ks : List Int) (n g : Nat) (w : World) (hn : 1 ≤ n) (hn3 : n ≤ 3) (hl : ks.length = n) (h : w.heap[g]? = some (.cells (intsV ks) 3)) :
    Calls Tryz.prog 120 #[.slice (some ⟨g, 0, none⟩) n n] w fun e w' => e = .returned (.slice (some ⟨w.heap.size, 0, none⟩) n n) ∧ w'.heap[w.heap.size]? = some (.cells (intsV ks) 3) ∧ Blw w w' := by
  match n, ks, hl with
  | 1, [a], _ => exact copied_1 a g w h
  | 2, [a, b], _ => exact copied_2 a b g w h
  | 3, [a, b, c], _ => exact copied_3 a b c g w h

/-- The cluster's row. -/
def clA (n : Nat) (mode : Int) (X K E W A T O : Value) (said : Bs) (err last : Int) (lg st : Bs) (old : Value) (n1 n2 n3 cl : Int) (tok : Bs) : Array Value :=
  #[.int .i64 n, .int .i64 mode, X, K, E, W, A, T, O, .string ⟨said.toArray⟩, .int .i64 err, .int .i64 last, .string ⟨lg.toArray⟩, .string ⟨st.toArray⟩, old, .int .i64 n1, .int .i64 n2, .int .i64 n3, .int .i64 cl, .string ⟨tok.toArray⟩]

/-- What State tells. -/
def stL (p : Pc) (n : Nat) : Bs := p.digsTo n ++ [59] ++ p.entTo 12

set_option maxRecDepth 100000 in
set_option maxHeartbeats 1000000 in
theorem ahead_at (cb xb kb b g me n r cx ck : Nat) (mode : Int) (p : Pc) (x : Ext) (ks : List Int) (xa ka : Array Value) (tx tk : TypeId) (w : World) (ea wa aa : Option Addr) (el ec wl wc al ac : Nat) (T O : Value) (said : Bs) (err last : Int) (lg st : Bs) (old : Value) (n1 n2 n3 cl : Int) (tok : Bs) (hn : n ≤ 3) (hr : r < n) (hp : p.ok)
    (hel : el ≤ maxLen) (hwl : wl ≤ maxLen) (hal : al ≤ maxLen)
    (hc : w.heap[cb]? = some (.cells (clA n mode (.slice (some ⟨xb, 0, none⟩) n cx) (.slice (some ⟨kb, 0, none⟩) n ck) (.slice ea el ec) (.slice wa wl wc) (.slice aa al ac) T O said err last lg st old n1 n2 n3 cl tok) 38))
    (hx : w.heap[xb]? = some (.cells xa tx)) (hxr : xa[r]? = some (.pointer (some ⟨b, 0, none⟩))) (hk : w.heap[kb]? = some (.cells ka tk)) (hkr : ka[r]? = some (.slice (some ⟨g, 0, none⟩) n n)) (hks : ks.length = n)
    (hg : w.heap[g]? = some (.cells (intsV ks) 3)) (h : w.heap[b]? = some (.cells (repArr me n p x) 69)) (hcb : cb ≠ b) (hcx : cb ≠ xb) (hck : cb ≠ kb) (hcg : cb ≠ g) :
    Calls Tryz.prog 62 #[.pointer (some ⟨cb, 0, none⟩), .int .i64 r] w fun e w' => e = .returned (.tuple #[]) ∧ Bx cb w w' ∧ ∃ o', w.heap.size ≤ o' ∧ w'.heap[o']? = some (.cells (intsV ks) 3) ∧
      w'.heap[cb]? = some (.cells (clA n mode (.slice (some ⟨xb, 0, none⟩) n cx) (.slice (some ⟨kb, 0, none⟩) n ck) (.slice ea el ec) (.slice wa wl wc) (.slice aa al ac) T O [] 0 r x.log (stL p n) (.slice (some ⟨o', 0, none⟩) n n) el wl al (-1) tok) 38) := by
  have HS := hid (state_any (xt := x) b me n p w hn hp h)
  have HLg := hid (log_any b me n p x w h)
  have hst : p.digsTo n ++ [59] ++ p.entTo 12 = stL p n := rfl
  rw [hst] at HS
  generalize x.log = lgx at *
  generalize stL p n = stx at *
  have c2 : w.cell? ⟨cb, 2, none⟩ = some (.slice (some ⟨xb, 0, none⟩) n cx) := by rw [blk_cell hc]; rfl
  have x0 : w.cell? ⟨xb, r, none⟩ = some (.pointer (some ⟨b, 0, none⟩)) := by rw [blk_cell hx]; exact hxr
  have HC := hid hc
  have HX := hid hx
  have HK := hid hk
  have HG := hid hg
  have hksh := hid hks
  have HKR := hid hkr
  clear hc hx hk h hp hg hst hkr hxr hks
  go_enter Tryz.func62, Tryz.ntmps62
  go_wp2_with fail
  refine HLg.out.mono ?_
  rintro e w0 ⟨rfl, hw0⟩
  subst w0
  go_wp2_with fail
  refine HS.out.mono ?_
  rintro e w1 ⟨rfl, b1⟩
  have g1 := b1.bk' HC.out
  have c3 : w1.cell? ⟨cb, 3, none⟩ = some (.slice (some ⟨kb, 0, none⟩) n ck) := by rw [blk_cell g1]; rfl
  have k0 : w1.cell? ⟨kb, r, none⟩ = some (.slice (some ⟨g, 0, none⟩) n n) := by rw [blk_cell (b1.bk' HK.out)]; exact HKR.out
  have c11 : w1.cell? ⟨cb, 11, none⟩ = some (.int .i64 last) := by rw [blk_cell g1]; rfl
  have c12 : w1.cell? ⟨cb, 12, none⟩ = some (.string ⟨lg.toArray⟩) := by rw [blk_cell g1]; rfl
  have c13 : w1.cell? ⟨cb, 13, none⟩ = some (.string ⟨st.toArray⟩) := by rw [blk_cell g1]; rfl
  have f := blk_frozen g1
  clear c2 x0
  have hX : (((w1.setCell ⟨cb, 11, none⟩ (.int .i64 r)).setCell ⟨cb, 12, none⟩ (.string ⟨lgx.toArray⟩)).setCell ⟨cb, 13, none⟩ (.string ⟨stx.toArray⟩)).heap[cb]? = some (.cells (clA n mode (.slice (some ⟨xb, 0, none⟩) n cx) (.slice (some ⟨kb, 0, none⟩) n ck) (.slice ea el ec) (.slice wa wl wc) (.slice aa al ac) T O said err r lgx stx old n1 n2 n3 cl tok) 38) := by
    rw [heap_setCell_self (heap_setCell_self (heap_setCell_self g1 _) _) _]; rfl
  have hXB : Bx cb w (((w1.setCell ⟨cb, 11, none⟩ (.int .i64 r)).setCell ⟨cb, 12, none⟩ (.string ⟨lgx.toArray⟩)).setCell ⟨cb, 13, none⟩ (.string ⟨stx.toArray⟩)) :=
    (((Blw.bx b1 cb).scs 11 [_]).scs 12 [_]).scs 13 [_]
  have hXG := hXB.keep HG.out (Ne.symm hcg)
  have HHX := hid (And.intro hX (And.intro hXB hXG))
  clear hX hXB hXG b1 g1
  go_wp2_with fail
  refine (copied_any ks n g _ (by omega) hn hksh.out HHX.out.2.2).mono ?_
  rintro e w2 ⟨rfl, ho, b2⟩
  have hle := HHX.out.2.1.size
  have g2 := b2.bk' HHX.out.1
  have d4 : w2.cell? ⟨cb, 4, none⟩ = some (.slice ea el ec) := by rw [blk_cell g2]; rfl
  have d5 : w2.cell? ⟨cb, 5, none⟩ = some (.slice wa wl wc) := by rw [blk_cell g2]; rfl
  have d6 : w2.cell? ⟨cb, 6, none⟩ = some (.slice aa al ac) := by rw [blk_cell g2]; rfl
  have d9 : w2.cell? ⟨cb, 9, none⟩ = some (.string ⟨said.toArray⟩) := by rw [blk_cell g2]; rfl
  have d10 : w2.cell? ⟨cb, 10, none⟩ = some (.int .i64 err) := by rw [blk_cell g2]; rfl
  have d14 : w2.cell? ⟨cb, 14, none⟩ = some old := by rw [blk_cell g2]; rfl
  have d15 : w2.cell? ⟨cb, 15, none⟩ = some (.int .i64 n1) := by rw [blk_cell g2]; rfl
  have d16 : w2.cell? ⟨cb, 16, none⟩ = some (.int .i64 n2) := by rw [blk_cell g2]; rfl
  have d17 : w2.cell? ⟨cb, 17, none⟩ = some (.int .i64 n3) := by rw [blk_cell g2]; rfl
  have d18 : w2.cell? ⟨cb, 18, none⟩ = some (.int .i64 cl) := by rw [blk_cell g2]; rfl
  have f2 := blk_frozen g2
  have hne := lt_of_blk HHX.out.1
  generalize ((((w1.setCell ⟨cb, 11, none⟩ (.int .i64 r)).setCell ⟨cb, 12, none⟩ (.string ⟨lgx.toArray⟩)).setCell ⟨cb, 13, none⟩ (.string ⟨stx.toArray⟩))).heap.size = sz at *
  have G2 := hid (And.intro g2 (And.intro (HHX.out.2.1.tr (Blw.bx b2 cb)) (And.intro ho (And.intro hle hne))))
  clear f c3 k0 c11 c12 c13 b2 g2 HHX ho hle hne
  go_wp2
  go_end0
  have hb := (((((((G2.out.2.1).scs 14 [.slice (some ⟨sz, 0, none⟩) n n]).scs 15 [.int .i64 el]).scs 16 [.int .i64 wl]).scs 17 [.int .i64 al]).scs 18 [.int .i64 (-1)]).scs 9 [.string ⟨([] : Bs).toArray⟩]).scs 10 [.int .i64 0]
  refine ⟨rfl, hb, sz, G2.out.2.2.2.1, ?_, ?_⟩
  · have hq := ((((((((Bx.rfl cb w2).scs 14 [.slice (some ⟨sz, 0, none⟩) n n]).scs 15 [.int .i64 el]).scs 16 [.int .i64 wl]).scs 17 [.int .i64 al]).scs 18 [.int .i64 (-1)]).scs 9 [.string ⟨([] : Bs).toArray⟩]).scs 10 [.int .i64 0])
    exact hq.keep G2.out.2.2.1 (by have := G2.out.2.2.2.2; omega)
  · rw [heap_setCell_self (heap_setCell_self (heap_setCell_self (heap_setCell_self (heap_setCell_self (heap_setCell_self (heap_setCell_self G2.out.1 _) _) _) _) _) _) _]
    rfl

end Go.Proofs.YtalaldfgjgpacaaGreatDoor

namespace Go.Proofs.YtalaldfgjgpacaaGreatDoor
set_option linter.unusedVariables false
set_option linter.unusedSimpArgs false

/-- A replica of a cluster of n whose log tells what it holds. -/
structure RepOk (n : Nat) (p : Pc) (x : Ext) : Prop where
  fine : p.fine
  hole : p.noHole
  inb : p.inb
  ofn : ofTo p n 3 = true
  had : x.had ≤ p.dots
  log : Rch n x.log x.log.length p x.bare

theorem of_empty (n : Nat) : ofTo Pc.empty n 3 = true := by
  rw [ofTo_iff]
  intro r hr
  right
  rw [count_zero_iff _ r hr]
  intro i _; rfl

theorem RepOk.start (n : Nat) : RepOk n Pc.empty Ext.zero := ⟨fine_empty, noHole_empty, inb_empty, of_empty n, Nat.zero_le _, .zero⟩

/-- A piece that may be joined, and brings something. -/
theorem RepOk.learn {n : Nat} {p : Pc} {x : Ext} (h : RepOk n p x) (q : Pc) (hq : q.fine) (iq : q.inb) (hf : fitsB n p q = true) (hd : p.dots < (p.join q).dots) : RepOk n (p.join q) (x.next q) := by
  refine ⟨join_fine h.fine hq, fits_hole hf, inb_join h.inb iq, ?_, ?_, h.log.delta rfl q hq iq hf hd⟩
  · have : ofTo q n 3 = true := by simp only [fitsB, Bool.and_eq_true] at hf; exact hf.1
    exact of_join h.ofn this
  · show x.had + 1 ≤ _
    have := h.had; omega

theorem fits_empty {n : Nat} {p : Pc} (h1 : ofTo p n 3 = true) (h2 : p.noHole) : fitsB n Pc.empty p = true := by
  have hc : clashTo Pc.empty p 27 = false := clash_none fun r i _ _ hf _ => by simp [Pc.empty, Sl.zero] at hf
  unfold fitsB
  rw [h1, hc, join_none, hole_of h2]; rfl

theorem RepOk.short {n : Nat} {p : Pc} {x : Ext} (h : RepOk n p x) : RepOk n p (x.compact p) :=
  ⟨h.fine, h.hole, h.inb, h.ofn, h.had, Rch.compact n p x h.fine h.inb (fits_empty h.ofn h.hole) h.had⟩

/-- An event. -/
theorem RepOk.event {n me : Nat} {p taken : Pc} {x : Ext} (h : RepOk n p x) (hn : n ≤ 3) (hme : me < n) (h9 : p.count (me : Int) < 9) (T : Sl → Bool) (hT : ∀ s, T s = true → s.filled = true)
    (htk : ∀ r i, r < 3 → i < 9 → taken r i = if T (p r i) then Sl.dot else Sl.zero) (it : taken.inb) (s : Sl) (hs : s.known = true) (hg : s.filled = true → s.good) (hc : s.filled = false → s.cart = 0 ∧ s.item = 0 ∧ s.value = 0) :
    RepOk n (p.join (taken.put me (p.count (me : Int)) s)) (x.next (taken.put me (p.count (me : Int)) s)) := by
  obtain ⟨f1, f2⟩ := event_fits h.fine hn hme rfl h9 h.hole h.ofn T hT htk s hs hg hc
  exact h.learn _ (put_fine h.fine T taken htk me _ s hs hg hc) (inb_put it (by omega) h9 s) f1 f2

/-- What Open makes of the log, whole or cut within its last frame. -/
theorem RepOk.again {n : Nat} {p : Pc} {x : Ext} (h : RepOk n p x) : logRun n x.log (x.log.length + 1) 0 Pc.empty Ext.zero = ⟨true, x.log.length, p, x.bare⟩ := run_whole h.log
theorem RepOk.cut {n : Nat} {p : Pc} {x : Ext} (h : RepOk n p x) (q : Pc) (hq : q.ok) (k : Nat) (h1 : x.log.length ≤ k) (h2 : k < (x.next q).log.length) :
    logRun n ((x.next q).log.take k) (((x.next q).log.take k).length + 1) 0 Pc.empty Ext.zero = ⟨true, x.log.length, p, x.bare⟩ := by
  have hb : ([68] ++ q.text).length < 1000 := by have := text_len' q hq; simp; omega
  have e : (x.next q).log.take k = x.log ++ (frameL ([68] ++ q.text)).take (k - x.log.length) := by
    show (x.log ++ frameL ([68] ++ q.text)).take k = _
    rw [List.take_append, List.take_of_length_le h1]
  have hl : (x.next q).log.length = x.log.length + (frameL ([68] ++ q.text)).length := by show (x.log ++ frameL ([68] ++ q.text)).length = _; rw [List.length_append]
  rw [e]
  exact run_cut h.log _ hb _ (by omega)
end Go.Proofs.YtalaldfgjgpacaaGreatDoor

namespace Go.Proofs.YtalaldfgjgpacaaGreatDoor
set_option linter.unusedVariables false
set_option linter.unusedSimpArgs false
open Go.RowKit
attribute [local go_sem ↓] Go.wp_at_zero Go.wp_at_succ

theorem Bx.blw {w w' : World} {o : Obj} (h : Bx w.heap.size (w.alloc o) w') : Blw w w' := by
  have b : Blw w (w.alloc o) := (Blw.rfl w).al o
  exact ⟨h.os.trans b.os, h.tape.trans b.tape, h.output.trans b.output, Nat.le_trans b.sz h.size, fun k hk => (h.block k (Nat.lt_of_lt_of_le hk b.sz) (by omega)).trans (b.bk k hk)⟩

set_option maxRecDepth 100000 in
set_option maxHeartbeats 2000000 in
theorem open_no (a b : Int) (s : ByteArray) (w : World) (h : newOk a b = false) :
    Calls Tryz.prog 39 #[.int .i64 a, .int .i64 b, .string s] w fun e w' => e = .returned (.tuple #[.pointer none, .int .i64 1]) ∧ Blw w w' := by
  have HN := hid (fun wx => new_no a b wx h)
  clear h
  go_enter Tryz.func39, Tryz.ntmps39
  go_wp2_with fail
  refine (HN.out _).mono ?_
  rintro e w1 ⟨rfl, hw1⟩
  subst w1
  go_wp2
  go_ret2
  exact ⟨rfl, Blw.rfl _⟩

set_option maxRecDepth 100000 in
set_option maxHeartbeats 2000000 in
theorem open_long (me n : Nat) (s : ByteArray) (w : World) (hn : n ≤ 3) (hm : me < n) (hs : 9000 < s.size) (hs' : s.size ≤ maxLen) :
    Calls Tryz.prog 39 #[.int .i64 me, .int .i64 n, .string s] w fun e w' => e = .returned (.tuple #[.pointer none, .int .i64 10]) ∧ Blw w w' := by
  have HN := hid (fun wx => new_yes me n wx hn hm)
  unfold maxLen at hs'
  clear hn hm
  go_enter Tryz.func39, Tryz.ntmps39
  go_wp2_with fail
  refine (HN.out _).mono ?_
  rintro e w1 ⟨rfl, hw1⟩
  have B1 : Hid (Blw w w1) := by rw [hw1]; exact (Blw.rfl _).al _
  clear hw1
  go_wp2
  go_ret2
  exact ⟨rfl, B1.out⟩

set_option maxRecDepth 100000 in
set_option maxHeartbeats 2000000 in
theorem open_yes (me n : Nat) (log : Bs) (F : LR) (w : World) (hF : F = logRun n log (log.length + 1) 0 Pc.empty Ext.zero) (hl : log.length ≤ 9000) (hn : n ≤ 3) (hm : me < n) (ht : Tab Tryz.prog w) :
    Calls Tryz.prog 39 #[.int .i64 me, .int .i64 n, .string ⟨log.toArray⟩] w fun e w' => Blw w w' ∧ (F.ok = true ∧ e = .returned (.tuple #[.pointer (some ⟨w.heap.size, 0, none⟩), .int .i64 0]) ∧ w'.heap[w.heap.size]? = some (.cells (repArr me n F.h F.x) 69) ∨ F.ok = false ∧ e = .returned (.tuple #[.pointer none, .int .i64 10])) := by
  have HN := hid (fun wx => new_yes me n wx hn hm)
  have HL := hid (fun b wx ht' hw => readLog_any b me n log F wx hF hl hn ht' hw)
  obtain ⟨y, hy⟩ : ∃ y : ByteArray, y = ⟨log.toArray⟩ := ⟨_, rfl⟩
  have hys : y.size = log.length := by rw [hy, bs_size]
  have hy9 : y.size ≤ 9000 := by omega
  rw [← hy] at HL ⊢
  have T := hid ht
  clear hF hl hn hm ht hy hys
  go_enter Tryz.func39, Tryz.ntmps39
  go_wp2_with fail
  refine (HN.out _).mono ?_
  rintro e w1 ⟨rfl, hw1⟩
  have G1 : Hid (w1.heap[w.heap.size]? = some (.cells (repArr me n Pc.empty Ext.zero) 69)) := by rw [hw1]; exact hp_new _ _
  have B1 : Hid (Blw w w1) := by rw [hw1]; exact (Blw.rfl _).al _
  have XX : Hid (∀ w', Bx w.heap.size w1 w' → Blw w w') := by rw [hw1]; exact fun w' h => h.blw
  clear hw1
  go_wp2_with fail
  refine (HL.out _ _ (T.out.blw B1.out) G1.out).mono ?_
  rintro e w2 ⟨rfl, h2⟩
  have L2 := hid h2
  clear h2
  cases hok : F.ok
  · go_wp2
    go_ret2
    exact ⟨XX.out _ L2.out.bx, .inr ⟨hok, rfl⟩⟩
  · go_wp2
    go_ret2
    exact ⟨XX.out _ L2.out.bx, .inl ⟨hok, rfl, L2.out.blk hok⟩⟩
end Go.Proofs.YtalaldfgjgpacaaGreatDoor

namespace Go.Proofs.YtalaldfgjgpacaaGreatDoor
set_option linter.unusedVariables false
set_option linter.unusedSimpArgs false
open Go.RowKit

set_option maxRecDepth 100000 in
set_option maxHeartbeats 1000000 in
theorem still_at (cb xb b me n r cx : Nat) (mode : Int) (p : Pc) (x : Ext) (xa : Array Value) (tx : TypeId) (K E W A T O : Value) (w : World) (said : Bs) (err last : Int) (lg st : Bs) (old : Value) (n1 n2 n3 cl : Int) (tok : Bs) (hn : n ≤ 3) (hr : r < n) (hp : p.ok)
    (hc : w.heap[cb]? = some (.cells (clA n mode (.slice (some ⟨xb, 0, none⟩) n cx) K E W A T O said err last lg st old n1 n2 n3 cl tok) 38))
    (hx : w.heap[xb]? = some (.cells xa tx)) (hxr : xa[r]? = some (.pointer (some ⟨b, 0, none⟩))) (h : w.heap[b]? = some (.cells (repArr me n p x) 69)) :
    Calls Tryz.prog 123 #[.pointer (some ⟨cb, 0, none⟩), .int .i64 r] w fun e w' => e = .returned (.bool ((x.log == lg) && (stL p n == st))) ∧ Blw w w' := by
  have HS := hid (state_any (xt := x) b me n p w hn hp h)
  have HLg := hid (log_any b me n p x w h)
  have hst : p.digsTo n ++ [59] ++ p.entTo 12 = stL p n := rfl
  rw [hst] at HS
  generalize x.log = lgx at *
  generalize stL p n = stx at *
  have c2 : w.cell? ⟨cb, 2, none⟩ = some (.slice (some ⟨xb, 0, none⟩) n cx) := by rw [blk_cell hc]; rfl
  have x0 : w.cell? ⟨xb, r, none⟩ = some (.pointer (some ⟨b, 0, none⟩)) := by rw [blk_cell hx]; exact hxr
  have HC := hid hc
  clear hc hx h hp hxr hst
  cases hlg : (lgx == lg)
  · go_enter Tryz.func123, Tryz.ntmps123
    go_wp2_with fail
    refine HLg.out.mono ?_
    rintro e w0 ⟨rfl, hw0⟩
    subst w0
    go_wp2_with fail
    refine HS.out.mono ?_
    rintro e w1 ⟨rfl, b1⟩
    have g := b1.bk' HC.out
    have c12 : w1.cell? ⟨cb, 12, none⟩ = some (.string ⟨lg.toArray⟩) := by rw [blk_cell g]; rfl
    have c13 : w1.cell? ⟨cb, 13, none⟩ = some (.string ⟨st.toArray⟩) := by rw [blk_cell g]; rfl
    have B1 := hid b1
    clear c2 x0 b1 g
    go_wp2
    go_ret
    exact ⟨rfl, B1.out⟩
  · go_enter Tryz.func123, Tryz.ntmps123
    go_wp2_with fail
    refine HLg.out.mono ?_
    rintro e w0 ⟨rfl, hw0⟩
    subst w0
    go_wp2_with fail
    refine HS.out.mono ?_
    rintro e w1 ⟨rfl, b1⟩
    have g := b1.bk' HC.out
    have c12 : w1.cell? ⟨cb, 12, none⟩ = some (.string ⟨lg.toArray⟩) := by rw [blk_cell g]; rfl
    have c13 : w1.cell? ⟨cb, 13, none⟩ = some (.string ⟨st.toArray⟩) := by rw [blk_cell g]; rfl
    have B1 := hid b1
    clear c2 x0 b1 g
    go_wp2
    go_ret
    exact ⟨rfl, B1.out⟩

theorem ext_take (s : Bs) (k : Nat) : ((ByteArray.mk s.toArray).extract 0 k).toList = s.take k := by
  rw [ByteArray.toList_eq, ByteArray.data_extract]
  simp

set_option maxRecDepth 100000 in
set_option maxHeartbeats 400000 in
theorem begins_any (s t : Bs) (w : World) (hs : s.length ≤ 1000000) (ht : t.length ≤ 1000000) :
    Calls Tryz.prog 119 #[.string ⟨s.toArray⟩, .string ⟨t.toArray⟩] w fun e w' => e = .returned (.bool (s.take t.length == t)) ∧ w' = w := by
  by_cases hle : t.length ≤ s.length
  · go_enter Tryz.func119, Tryz.ntmps119
    go_wp2
    go_ret
    refine ⟨?_, rfl⟩
    rw [← ext_take s t.length]
    rfl
  · have hf : (s.take t.length == t) = false := by
      rw [beq_eq_false_iff_ne]
      intro h
      have := congrArg List.length h
      rw [List.length_take] at this
      omega
    rw [hf]
    go_enter Tryz.func119, Tryz.ntmps119
    go_wp2
    go_ret
    exact ⟨rfl, rfl⟩

end Go.Proofs.YtalaldfgjgpacaaGreatDoor
