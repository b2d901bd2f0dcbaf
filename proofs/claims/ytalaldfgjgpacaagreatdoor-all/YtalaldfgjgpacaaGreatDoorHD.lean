import Derived.Test.YtalaldfgjgpacaaGreatDoorH6
namespace Go.Proofs.YtalaldfgjgpacaaGreatDoor
set_option linter.unusedVariables false
set_option linter.unusedSimpArgs false
open Go.RowKit
attribute [local go_sem ↓] Go.wp_at_zero Go.wp_at_succ

set_option maxRecDepth 100000 in
set_option maxHeartbeats 2000000 in
theorem rframe_no (cb : Nat) (l : Bs) (first : Bool) (w : World) (hl : l.length ≤ 90000) (hl0 : ∀ c t, l = c :: t → c ≠ 68 ∧ c ≠ 83) :
    Calls Tryz.prog 87 #[.pointer (some ⟨cb, 0, none⟩), .string ⟨l.toArray⟩, .bool first] w fun e w' => e = .returned (.bool false) ∧ w' = w := by
  cases l with
  | nil =>
    clear hl0
    go_enter Tryz.func87, Tryz.ntmps87
    go_wp2
    go_ret
    exact ⟨rfl, rfl⟩
  | cons c t =>
    obtain ⟨h68, h83⟩ := hl0 c t rfl
    obtain ⟨y, hy⟩ : ∃ y : ByteArray, y = ⟨(c :: t).toArray⟩ := ⟨_, rfl⟩
    have hys : y.size = t.length + 1 := by rw [hy, bs_size]; rfl
    have h0y : 0 < y.size := by omega
    have hb0 : y[0]'h0y = c := by subst hy; rfl
    have g0 : ((y.size : Int) == 0) = false := by rw [beq_eq_false_iff_ne]; omega
    have g0' : (y.size == 0) = false := by rw [beq_eq_false_iff_ne]; omega
    have c83 : ((c.toNat : Int) == 83) = false := by
      rw [beq_eq_false_iff_ne]; intro e; exact h83 (UInt8.toNat_inj.1 (by show c.toNat = 83; omega))
    have c68 : ((c.toNat : Int) == 68) = false := by
      rw [beq_eq_false_iff_ne]; intro e; exact h68 (UInt8.toNat_inj.1 (by show c.toNat = 68; omega))
    have n68 : ((c.toNat : Int) != 68) = true := by rw [bne, c68]; rfl
    have HYS := hid hys
    rw [← hy]
    clear hy hl0 hys h68 h83 hl
    go_enter Tryz.func87, Tryz.ntmps87
    go_wp2
    go_ret
    exact ⟨rfl, rfl⟩

theorem rframe_any (cb me n : Nat) (a b : Value) (x : Ext) (lt ac : Value) (dk : Bs) (D E : List Bs) (p : Pc) (l : Bs) (first : Bool) (w : World) (hl : l.length ≤ 90000) (hn : n ≤ 3) (hhd : x.had ≤ 1000000000)
    (hc : w.heap[cb]? = some (.cells (refArr me n a b x.had lt ac dk) 123)) (ha : Ls w 0 a D) (hb : Ls w 0 b E) (hRel : RelP p D E) (hp : p.fine) (hz : first = true → p = Pc.empty) :
    Calls Tryz.prog 87 #[.pointer (some ⟨cb, 0, none⟩), .string ⟨l.toArray⟩, .bool first] w fun e w' => FrameRes cb me n (stepOk n first p l) (stepTo n first p l) (stepX n first p x l).had lt ac dk w e w' := by
  have no : (∀ c t, l = c :: t → c ≠ 68 ∧ c ≠ 83) → stepOk n first p l = false → Calls Tryz.prog 87 #[.pointer (some ⟨cb, 0, none⟩), .string ⟨l.toArray⟩, .bool first] w fun e w' => FrameRes cb me n (stepOk n first p l) (stepTo n first p l) (stepX n first p x l).had lt ac dk w e w' := by
    intro h0 h1
    refine (rframe_no cb l first w hl h0).mono ?_
    rintro e w' ⟨rfl, rfl⟩
    exact ⟨by rw [h1], Bs2.rfl _ _, fun h => by rw [h1] at h; cases h⟩
  cases l with
  | nil => exact no (fun c t h => by cases h) rfl
  | cons c t =>
    by_cases h68 : c = 68
    · subst h68
      refine rframe_D cb me n a b x.had lt ac dk D E p _ _ t first _ w (by simp at hl; omega) hn hhd hc ha hb hRel hp ?_ ?_
      · simp [stepOk, deltaOk]
      · intro ho
        have ho' : deltaOk n p t = true := by simpa [stepOk] using ho
        constructor
        · simp [stepTo, deltaTo, ho']
        · simp [stepX, deltaX, ho', Ext.take]
    · by_cases h83 : c = 83
      · subst h83
        refine rframe_S cb me n a b x.had lt ac dk D E p _ _ t first _ w (by simp at hl; omega) hn hhd hc ha hb hRel hp ?_ ?_
        · have : stepOk n first p (83 :: t) = (first && wholeOk n p t) := by simp [stepOk]
          rw [this, Bool.and_comm]; rfl
        · intro ho
          have ho' : first = true ∧ wholeOk n p t = true := by simpa [stepOk] using ho
          have hpe := hz ho'.1
          subst hpe
          constructor
          · rw [join_none]; simp [stepTo, wholeTo, ho'.1, ho'.2]
          · simp [stepX, wholeX, ho'.1, ho'.2, Ext.compact]
      · exact no (fun c' t' h => by simp only [List.cons.injEq] at h; rw [← h.1]; exact ⟨h68, h83⟩) (by simp [stepOk, h68, h83])

/-- Within a log, at the document's replica. -/
structure RMid (cb me n : Nat) (log : Bs) (F : LR) (ac : Value) (a : Nat) (h : Pc) (x : Ext) (w wr : World) : Prop where
  bs : Bs2 (fun k => k = cb) w wr
  ref : ∃ va vb D E, wr.heap[cb]? = some (.cells (refArr me n va vb x.had (.slice none 0 0) ac []) 123) ∧ Ls wr 0 va D ∧ Ls wr 0 vb E ∧ RelP h D E
  inv : LInv log a h x
  run : ∃ f, logRun n log (f + 1) a h x = F ∧ log.length ≤ a + f
  asd : ∃ ln ls, Aside w cb n ac Ext.zero ln ls

theorem Bs2.blw {w w1 w' : World} {cb : Nat} (hb : Blw w w1) (h : Bs2 (fun k => k = cb) w1 w') (hc : w.heap.size ≤ cb) : Blw w w' :=
  ⟨h.os.trans hb.os, h.tape.trans hb.tape, h.output.trans hb.output, Nat.le_trans hb.sz h.size, fun k hk => (h.block k (Nat.lt_of_lt_of_le hk hb.sz) (fun e => by omega)).trans (hb.bk k hk)⟩

/-- The replica at the log's end. -/
theorem RMid.fin {cb me n : Nat} {log : Bs} {F : LR} {ac : Value} {a : Nat} {h : Pc} {x : Ext} {w wr : World} (M : RMid cb me n log F ac a h x w wr) : RefAt (wr.setCell ⟨cb, 7, none⟩ (.string ⟨(log.take a).toArray⟩)) cb me n h x (.slice none 0 0) := by
  obtain ⟨va, vb, D, E, h1, h2, h3, h4⟩ := M.ref
  have k := ref_put_disk h1 (log.take a)
  rw [← M.inv.log] at k ⊢
  obtain ⟨ln, ls, A⟩ := M.asd
  obtain ⟨b1, b2⟩ := M.inv.bare
  have hp := A.pos
  have hk : (wr.setCell ⟨cb, 7, none⟩ (.string ⟨x.log.toArray⟩)).heap[cb - 1]? = some (.cells (acksA n x.ack) 3) := by
    rw [Below.heap_setCell wr ⟨cb, 7, none⟩ _ (cb - 1) (by simp; omega), M.bs.block _ (lt_of_blk A.ack) (by omega), b2]
    exact A.ack
  exact ⟨va, vb, ac, D, E, 0, [], k, h2.sc h1 (by decide) _, h3.sc h1 (by decide) _, LateAt.nil _, ⟨by rw [Ext.kept, b1]; rfl, by rw [b1]; rfl, hp, A.ac, hk⟩, h4⟩
end Go.Proofs.YtalaldfgjgpacaaGreatDoor

namespace Go.Proofs.YtalaldfgjgpacaaGreatDoor
set_option linter.unusedVariables false
set_option linter.unusedSimpArgs false
open Go.RowKit
attribute [local go_sem ↓] Go.wp_at_zero Go.wp_at_succ

set_option maxRecDepth 100000 in
set_option maxHeartbeats 2000000 in
theorem ropen_no (a b : Int) (s : ByteArray) (w : World) (h : newOk a b = false) :
    Calls Tryz.prog 40 #[.int .i64 a, .int .i64 b, .string s] w fun e w' => e = .returned (.tuple #[.pointer none, .int .i64 1]) ∧ Blw w w' := by
  have HN := hid (fun wx => rnew_no a b wx h)
  clear h
  go_enter Tryz.func40, Tryz.ntmps40
  go_wp2_with fail
  refine (HN.out _).mono ?_
  rintro e w1 ⟨rfl, hw1⟩
  subst w1
  go_wp2
  go_ret2
  exact ⟨rfl, Blw.rfl _⟩

set_option maxRecDepth 100000 in
set_option maxHeartbeats 2000000 in
theorem ropen_long (me n : Nat) (s : ByteArray) (w : World) (hn : n ≤ 3) (hm : me < n) (hs : 9000 < s.size) (hs' : s.size ≤ maxLen) :
    Calls Tryz.prog 40 #[.int .i64 me, .int .i64 n, .string s] w fun e w' => e = .returned (.tuple #[.pointer none, .int .i64 10]) ∧ Blw w w' := by
  have HN := hid (fun wx => rnew_yes me n wx hn hm)
  unfold maxLen at hs'
  clear hn hm
  go_enter Tryz.func40, Tryz.ntmps40
  go_wp2_with fail
  refine (HN.out _).mono ?_
  rintro e w1 ⟨rfl, _, b1⟩
  have B1 := hid b1
  clear b1
  go_wp2
  go_ret2
  exact ⟨rfl, B1.out⟩

/-- What the document's Open gives. -/
structure OpenRes (me n : Nat) (F : LR) (w : World) (e : Ending) (w' : World) : Prop where
  bl : Blw w w'
  h : F.ok = true ∧ (∃ cb, w.heap.size ≤ cb - 1 ∧ e = .returned (.tuple #[.pointer (some ⟨cb, 0, none⟩), .int .i64 0]) ∧ RefAt w' cb me n F.h F.x (.slice none 0 0)) ∨ F.ok = false ∧ e = .returned (.tuple #[.pointer none, .int .i64 10])

set_option maxRecDepth 100000 in
set_option maxHeartbeats 4000000 in
theorem ropen_yes (me n : Nat) (log : Bs) (F : LR) (w : World) (hF : F = logRun n log (log.length + 1) 0 Pc.empty Ext.zero) (hl : log.length ≤ 9000) (hn : n ≤ 3) (hm : me < n) :
    Calls Tryz.prog 40 #[.int .i64 me, .int .i64 n, .string ⟨log.toArray⟩] w fun e w' => OpenRes me n F w e w' := by
  have HN := hid (fun wx => rnew_yes me n wx hn hm)
  obtain ⟨y, hy⟩ : ∃ y : ByteArray, y = ⟨log.toArray⟩ := ⟨_, rfl⟩
  have hys : y.size = log.length := by rw [hy, bs_size]
  have HX : Hid (∀ i j, y.extract i j = ByteArray.mk ((log.drop i).take (j - i)).toArray) := by rw [hy]; exact fun i j => bs_extract log i j
  have HYS := hid hys
  have hl' : y.size ≤ 9000 := by omega
  rw [← hy]
  have HF0 := hid hF
  clear hy hys hl hF
  go_enter Tryz.func40, Tryz.ntmps40
  go_wp2_with fail
  refine (HN.out _).mono ?_
  rintro e w1 ⟨rfl, r1, b1⟩
  obtain ⟨va, vb, ac, D, E, ln, ls, q1, q2, q3, q4, q5, q6⟩ := r1.h
  have M0 : Hid (RMid (w.heap.size + 1) me n log F ac 0 Pc.empty Ext.zero w1 w1) := ⟨Bs2.rfl _ _, ⟨va, vb, D, E, q1, q2, q3, q6⟩, LInv.start log, ⟨log.length, HF0.out.symm, by omega⟩, ⟨ln, ls, q5⟩⟩
  have B1 := hid b1
  clear b1 r1 q1 q2 q3 q4 q5 q6
  generalize hcb : w.heap.size + 1 = cb at *
  have HCB := hid hcb
  clear hcb
  go_wp2_with fail
  go_loopw [10] (fun i wr => ∃ (a : Nat) (hh : Pc) (x : Ext), i = .int .i64 (a : Int) ∧ a ≤ y.size ∧ RMid cb me n log F ac a hh x w1 wr) (fun i _ => y.size - (intOf i).toNat)
  case atStart => exact ⟨0, Pc.empty, Ext.zero, rfl, by omega, M0.out⟩
  case round =>
    clear M0
    obtain ⟨a, hh, x, rfl, ha, hM⟩ := hrel
    have M := hid hM
    obtain ⟨f, hf⟩ := hM.run
    obtain ⟨va, vb, D, E, hc, hva, hvb, hRel⟩ := hM.ref
    have HF := hid hf
    have HX0 : Hid (y.extract 0 a = ByteArray.mk (log.take a).toArray) := by show _ = _; rw [HX.out]; simp
    have t7 := (ref_n hc).2.2.2.2.2.2.2
    have f7 := blk_frozen hc 7
    have s0 : (0 : Int) ≤ (a : Int) := Int.natCast_nonneg _
    have s00 : (a : Int) ≤ (y.size : Int) := by omega
    have FIN := hid hM.fin
    have FBL := hid (Bs2.blw B1.out (hM.bs.sc cb 7 (.string ⟨(log.take a).toArray⟩) (.inl rfl)) (by have := HCB.out; omega))
    have FBL0 := hid (Bs2.blw B1.out hM.bs (by have := HCB.out; omega))
    rw [← HX0.out] at FIN FBL
    have hR := hid (And.intro hc (And.intro hva (And.intro hvb hRel)))
    clear hM hf hc hva hvb hRel
    by_cases h3 : log.length < a + 3
    · have E0 : Hid (F = ⟨true, a, hh, x⟩) := by show _ = _; rw [← HF.out.1]; exact run_zero (st_short h3) f
      have g3 : (y.size : Int) - (a : Int) < 3 := by have := HYS.out; omega
      go_wp2
      go_ret2
      exact ⟨FBL.out, .inl ⟨by rw [E0.out], cb, by have := HCB.out; omega, rfl, by rw [E0.out]; exact FIN.out⟩⟩
    · have g3 : ¬ ((y.size : Int) - (a : Int) < 3) := by have := HYS.out; omega
      have g3' : (3 : Int) ≤ (y.size : Int) - (a : Int) := by omega
      have hay : a + 3 ≤ y.size := by have := HYS.out; omega
      have HX1 : Hid (y.extract a (a + 3) = ByteArray.mk ((log.drop a).take 3).toArray) := by show _ = _; rw [HX.out]; simp
      have hdl : ((log.drop a).take 3).length = 3 := by have := HYS.out; simp; omega
      have HAL := hid (fun wx => all_any ((log.drop a).take 3) wx (by omega))
      unfold strV at HAL
      have OD : Hid (okD ((log.drop a).take 3) = ((log.drop a).take 3).all isDigB) := by show _ = _; simp [okD, hdl]
      have HV : Hid (okD ((log.drop a).take 3) = true → ∀ wx, Calls Tryz.prog 86 #[.string ⟨((log.drop a).take 3).toArray⟩] wx fun e w' => e = .returned (.int .i64 ((numTo ((log.drop a).take 3) 3 : Nat) : Int)) ∧ w' = wx) := by
        intro ho wx
        have := rvalue_any ((log.drop a).take 3) wx (by omega) (fun j hj => dig_all ho j hj)
        rw [hdl] at this; exact this
      have NB := hid (fun ho : okD ((log.drop a).take 3) = true => numTo_ok ((log.drop a).take 3) ho)
      rw [hdl] at NB
      have HN1 := hid (fun ho => run_one (x := x) (st_nodig (n := n) (h := hh) h3 ho) f)
      have HN2 := hid (fun ho hc => run_zero (x := x) (st_cut (n := n) (h := hh) h3 ho hc) f)
      have HN3 := hid (fun ho hc hs => run_one (x := x) (st_bad (n := n) (h := hh) h3 ho hc hs) f)
      have HN4 := hid (fun ho hc hs => run_two (x := x) (st_good (n := n) (h := hh) h3 ho hc hs) f)
      have HN5 := hid (fun ho hc hs => M.out.inv.next (n := n) (by rw [st_good h3 ho hc hs]; decide) (by rw [st_good h3 ho hc hs]; decide))
      have HFL : Hid (frLen log a = numTo ((log.drop a).take 3) 3) := rfl
      have s1 : (a : Int) ≤ (a : Int) + 3 := by omega
      have s2 : (a : Int) + 3 ≤ (y.size : Int) := by omega
      have s3 : ((a : Int) + 3).toNat = a + 3 := by omega
      have s4 : (0 : Int) ≤ (a : Int) + 3 := by omega
      have s5 : IntKind.i64.wrap ((a : Int) + 3) = (a : Int) + 3 := by rw [IntKind.wrap_i64]; omega
      rw [← OD.out] at HAL
      clear h3 hdl OD
      generalize okD ((log.drop a).take 3) = od at *
      generalize numTo ((log.drop a).take 3) 3 = k at *
      go_wp2_with fail
      rw [HX1.out]
      refine (HAL.out _).mono ?_
      rintro e w2 ⟨rfl, hw2⟩
      subst w2
      cases od
      · have E0 : Hid (F = ⟨false, a, hh, x⟩) := by show _ = _; rw [← HF.out.1]; exact HN1.out (by trivial)
        go_wp2
        go_ret2
        exact ⟨FBL0.out, .inr ⟨by rw [E0.out], rfl⟩⟩
      · have nk := NB.out (by trivial)
        go_wp2_with fail
        rw [HX1.out]
        refine (HV.out (by trivial) _).mono ?_
        rintro e w2 ⟨rfl, hw2⟩
        subst w2
        by_cases hc : log.length < a + 3 + frLen log a
        · have E0 : Hid (F = ⟨true, a, hh, x⟩) := by show _ = _; rw [← HF.out.1]; exact HN2.out (by trivial) hc
          have gc : (y.size : Int) - (a : Int) - 3 < (k : Int) := by have := HYS.out; have := HFL.out; omega
          clear hc
          go_wp2
          go_ret2
          exact ⟨FBL.out, .inl ⟨by rw [E0.out], cb, by have := HCB.out; omega, rfl, by rw [E0.out]; exact FIN.out⟩⟩
        · have gc : ¬ ((y.size : Int) - (a : Int) - 3 < (k : Int)) := by have := HYS.out; have := HFL.out; omega
          have hak : a + 3 + k ≤ y.size := by omega
          have HX2 : Hid (y.extract (a + 3) (a + 3 + k) = ByteArray.mk (frBody log a).toArray) := by show _ = _; rw [HX.out, frBody, HFL.out]; simp
          have hbl : (frBody log a).length ≤ 90000 := by unfold frBody; have := HYS.out; simp; omega
          have hxs : x.had ≤ 1000000000 := by have := M.out.inv.had; have := size_le27 hh; omega
          have hz : (a == 0) = true → hh = Pc.empty := fun e => (M.out.inv.z (by simpa using e)).1
          have HR := hid (rframe_any cb me n va vb x (.slice none 0 0) ac [] D E hh (frBody log a) (a == 0) wr hbl hn hxs hR.out.1 hR.out.2.1 hR.out.2.2.1 hR.out.2.2.2 M.out.inv.fine hz)
          have HN3' := hid (HN3.out (by trivial) hc)
          have HN4' := hid (HN4.out (by trivial) hc)
          have HN5' := hid (HN5.out (by trivial) hc)
          rw [HFL.out] at HN4' HN5'
          have hfi : ((a : Int) == 0) = (a == 0) := by
            rw [Bool.eq_iff_iff]; simp
          generalize (a == 0) = first at *
          generalize stepOk n first hh (frBody log a) = so at *
          generalize stepTo n first hh (frBody log a) = sto at *
          generalize stepX n first hh x (frBody log a) = sxo at *
          have u1 : (a : Int) + 3 ≤ (a : Int) + 3 + (k : Int) := by omega
          have u2 : (a : Int) + 3 + (k : Int) ≤ (y.size : Int) := by omega
          have u3 : ((a : Int) + 3 + (k : Int)).toNat = a + 3 + k := by omega
          have u4 : (0 : Int) ≤ (a : Int) + 3 + (k : Int) := by omega
          have u5 : IntKind.i64.wrap ((a : Int) + 3 + (k : Int)) = (a : Int) + 3 + (k : Int) := by rw [IntKind.wrap_i64]; omega
          clear hc hbl hxs HN1 HN2 HN3 HN4 HN5 FIN FBL FBL0 HX0 hz t7 f7
          go_wp2_with fail
          rw [HX2.out]
          refine HR.out.mono ?_
          rintro e w2 ⟨rfl, bs2, h2⟩
          have BS := hid (M.out.bs.tr (bs2.weak (fun i hi => .inl hi)))
          have H2 := hid h2
          clear bs2 h2
          cases so
          · have E0 : Hid (F = ⟨false, a, hh, x⟩) := by show _ = _; rw [← HF.out.1]; exact HN3'.out (by trivial)
            go_wp2
            go_ret2
            exact ⟨Bs2.blw B1.out BS.out (by have := HCB.out; omega), .inr ⟨by rw [E0.out], rfl⟩⟩
          · have MN : Hid (RMid cb me n log F ac (a + 3 + k) sto sxo w1 w2) := by
              obtain ⟨va', vb', D', E', k1, k2, k3, k4⟩ := H2.out (by trivial)
              refine ⟨BS.out, ⟨va', vb', D', E', k1, k2, k3, k4⟩, HN5'.out (by trivial), ?_, M.out.asd⟩
              have hfl := HF.out.2
              obtain ⟨f', rfl⟩ : ∃ f', f = f' + 1 := ⟨f - 1, by have := HYS.out; omega⟩
              exact ⟨f', by rw [← HF.out.1]; exact (HN4'.out (by trivial)).symm, by omega⟩
            go_wp2
            go_roundw
            case rel => exact ⟨a + 3 + k, sto, sxo, by go_num, by omega, MN.out⟩
            case measure => simp [intOf]; omega
end Go.Proofs.YtalaldfgjgpacaaGreatDoor
