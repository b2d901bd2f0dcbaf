import Derived.Test.YtalaldfgjgpacaaGreatDoorTD
namespace Go.Proofs.YtalaldfgjgpacaaGreatDoor
set_option linter.unusedVariables false
set_option linter.unusedSimpArgs false
open Go.RowKit
attribute [local go_sem ↓] Go.wp_at_zero Go.wp_at_succ

theorem RefStep.post {cb me n : Nat} {p : Pc} {x : Ext} {lt : Value} {w w1 w' : World} (h : RefStep cb me n p x lt w w1) (hb : Blw w1 w') : RefStep cb me n p x lt w w' := by
  obtain ⟨lt', h1, h2⟩ := h.h
  exact ⟨⟨lt', h1.on hb, h2⟩, h.bs.tr (hb.b2 _)⟩

set_option maxRecDepth 100000 in
set_option maxHeartbeats 8000000 in
theorem rtake_any (cb me n : Nat) (p : Pc) (x : Ext) (lt : Value) (c0 c1 c2 c3 c4 : UInt8) (t : Bs) (ok : Bool) (er : Int) (an : Bs) (p' : Pc) (x' : Ext) (w : World) (hl : t.length ≤ 295) (hn : n ≤ 3) (hxs : x.small) (hRef : RefAt w cb me n p x lt) (hp : p.fine)
    (hok : ok = (hdOk c1 c2 c3 c4 && ((([c0] == [(73 : UInt8)]) || ([c0] == [(70 : UInt8)])) && readOk t)))
    (hS : TakeSpec ok (forMe me n (c1.toNat - 48) (c2.toNat - 48)) (checkE n p (readP t)) (decide (p.dots < (p.join (readP t)).dots)) (readP t) p x [65, dig me, dig (c1.toNat - 48), dig (((c3.toNat - 48) * 10 + (c4.toNat - 48)) / 10), dig (((c3.toNat - 48) * 10 + (c4.toNat - 48)) % 10)] er an p' x') :
    Calls Tryz.prog 55 #[.pointer (some ⟨cb, 0, none⟩), .string ⟨(c0 :: c1 :: c2 :: c3 :: c4 :: t).toArray⟩] w fun e w' => e = .returned (.tuple #[.string ⟨an.toArray⟩, .int .i64 er]) ∧ RefStep cb me n p' x' lt w w' := by
  obtain ⟨a, b, ac, D, E, ln, ls, r1, r2, r3, r4, hln0, r6⟩ := hRef.h
  have hln := hid hln0
  clear hln0
  have HRef := hid hRef
  have HFi := hid hp
  have HRel := hid r6
  have HC := hid r1
  have HLt := hid r4
  have HPa := hid (r6.pcAt hp.ok r2 r3)
  obtain ⟨ao, ca, rfl, _⟩ := r2.op
  obtain ⟨bo, cb', rfl, _⟩ := r3.op
  have S := hid hS
  obtain ⟨y, hy⟩ : ∃ y : ByteArray, y = ⟨(c0 :: c1 :: c2 :: c3 :: c4 :: t).toArray⟩ := ⟨_, rfl⟩
  have hys : y.size = t.length + 5 := by rw [hy, bs_size]; rfl
  have i0 : 0 < y.size := by omega
  have i1 : 1 < y.size := by omega
  have i2 : 2 < y.size := by omega
  have hb0 : y[0]'i0 = c0 := by subst hy; rfl
  have hb1 : y[1]'i1 = c1 := by subst hy; rfl
  have hb2 : y[2]'i2 = c2 := by subst hy; rfl
  have HX3 : Hid (y.extract 3 5 = ⟨[c3, c4].toArray⟩) := by rw [hy]; exact bs_extract (c0 :: c1 :: c2 :: c3 :: c4 :: t) 3 5
  have HX2 : Hid (y.extract 2 3 = ⟨[c2].toArray⟩) := by rw [hy]; exact bs_extract (c0 :: c1 :: c2 :: c3 :: c4 :: t) 2 3
  have HX1 : Hid (y.extract 1 2 = ⟨[c1].toArray⟩) := by rw [hy]; exact bs_extract (c0 :: c1 :: c2 :: c3 :: c4 :: t) 1 2
  have HX5 : Hid (y.extract 5 y.size = ⟨t.toArray⟩) := by
    show _ = _
    rw [hys, hy]; exact (bs_extract (c0 :: c1 :: c2 :: c3 :: c4 :: t) 5 _).trans (by simp)
  have h5 : ¬ y.size < 5 := by omega
  have h300 : ¬ 300 < y.size := by omega
  have h5' : 5 ≤ y.size := by omega
  have HR := hid (fun wx => rread_any t wx (by omega))
  have HAL := hid (fun wx => all_any [c3, c4] wx (by simp))
  unfold strV at HAL
  have HI1 := hid (fun wx => isReplica_any c1 wx)
  have HI2 := hid (fun wx => isReplica_any c2 wx)
  have eal : [c3, c4].all isDigB = (isDigB c3 && isDigB c4) := by simp
  rw [eal] at HAL
  have OKE0 : Hid (ok = ((isRepB c1 && (isRepB c2 && (isDigB c3 && isDigB c4))) && ((([c0] == [(73 : UInt8)]) || ([c0] == [(70 : UInt8)])) && readOk t))) := hok
  have HANS : Hid ((48 ≤ c1.toNat ∧ c1.toNat < 51) ∧ (48 ≤ c2.toNat ∧ c2.toNat < 51) → c2.toNat - 48 = me → (isDigB c3 && isDigB c4) = true → (ByteArray.mk #[65] ++ y.extract 2 3 ++ y.extract 1 2 ++ y.extract 3 5) = ⟨[65, dig me, dig (c1.toNat - 48), dig (((c3.toNat - 48) * 10 + (c4.toNat - 48)) / 10), dig (((c3.toNat - 48) * 10 + (c4.toNat - 48)) % 10)].toArray⟩) := by
    rintro ⟨⟨u0, u1⟩, u2, u3⟩ hme hdg
    rw [Bool.and_eq_true, isDigB_iff, isDigB_iff] at hdg
    rw [HX2.out, HX1.out, HX3.out, ← hme, ← dig_of u0 (by omega), ← dig_of u2 (by omega),
      show ((c3.toNat - 48) * 10 + (c4.toNat - 48)) / 10 = c3.toNat - 48 by omega, show ((c3.toNat - 48) * 10 + (c4.toNat - 48)) % 10 = c4.toNat - 48 by omega, ← dig_of hdg.1.1 (by omega), ← dig_of hdg.2.1 (by omega)]
    exact (congrArg (· ++ ByteArray.mk [c3, c4].toArray) ((congrArg (· ++ ByteArray.mk [c1].toArray) (ByteArray.mk_append_mk [65] [c2])).trans (ByteArray.mk_append_mk [65, c2] [c1]))).trans (ByteArray.mk_append_mk [65, c2, c1] [c3, c4])
  have HYS := hid hys
  rw [← hy]
  clear hy hys hok hS hRef hp r1 r2 r3 r4 r6 hl eal
  generalize (isDigB c3 && isDigB c4) = dg at *
  have nb : ∀ k : Nat, c0.toNat ≠ k → ((c0.toNat : Int) == (k : Int)) = false := fun k h => by rw [beq_eq_false_iff_ne]; omega
  by_cases k73 : c0 = 73
  · have OKE : Hid (ok = ((isRepB c1 && (isRepB c2 && dg)) && readOk t)) := by show _ = _; rw [OKE0.out, k73]; simp
    have g73 : ((c0.toNat : Int) != 73) = false := by rw [k73]; rfl
    clear OKE0 k73 nb
    go_enter Tryz.func55, Tryz.ntmps55
    go_wp2_with fail
    rw [HX3.out]
    refine (HAL.out _).mono ?_
    rintro e w9 ⟨rfl, hw9⟩
    subst w9
    go_wp2_with fail
    rw [HX5.out]
    refine (HR.out _).mono ?_
    rintro e w1 ⟨b1, hres⟩
    have B1 := hid b1
    clear b1
    rcases hres with ⟨a', b', D', E', rfl, j1, j2, hG⟩ | ⟨rfl, hno⟩
    · have RO : Hid (readOk t = true) := good_read hG
      obtain ⟨q1, q2, q3⟩ := good_readP hG
      have PQ := hid (q1.pcAt q2.ok j1 j2)
      obtain ⟨ao', ca', rfl, _⟩ := j1.op
      obtain ⟨bo', cb2, rfl, _⟩ := j2.op
      have rj := rel_join HRel.out q1 HFi.out q2
      have RJ := hid rj
      have JF := hid (join_fine HFi.out q2)
      have RLQ := hid (And.intro q1 q2)
      have HWR : Hid (writeL D' E' = (readP t).text) := q1.write q2.ok
      have hwl : (writeL D' E').length < 998 := by rw [HWR.out]; have := text_len' (readP t) q2.ok; omega
      have HFo := hid (fun wx hx => foreign_any (.slice ao' D'.length ca') (.slice bo' E'.length cb2) D' E' (n : Int) wx hx)
      have HBr := hid (fun wx hx hx' => brings_any (.slice ao D.length ca) (.slice bo E.length cb') (.slice ao' D'.length ca') (.slice bo' E'.length cb2) D E D' E' wx hx hx')
      have HCl := hid (fun wx hx hx' => rclash_any (.slice ao D.length ca) (.slice bo E.length cb') (.slice ao' D'.length ca') (.slice bo' E'.length cb2) D E D' E' wx hx hx')
      have HJ := hid (fun wx hx hx' => rjoin_any (.slice ao D.length ca) (.slice bo E.length cb') (.slice ao' D'.length ca') (.slice bo' E'.length cb2) D E D' E' wx hx hx')
      have HHo := hid (fun u v wx hx => rhole_any u v (joinD D D') (joinE D E D' E') wx hx)
      have FO : Hid (ofTo (readP t) n 3 = !D'.any (foreignF (n : Int))) := by show _ = _; rw [q1.foreign n, Bool.not_not]
      have BR : Hid (D'.any (bringsF D) = decide (p.dots < (p.join (readP t)).dots)) := HRel.out.brings q1
      have CL : Hid (E'.any (clashE E) = clashTo p (readP t) 27) := HRel.out.clash q1 HFi.out.ok q2.ok
      have HO : Hid ((joinD D D').any (holeF (joinD D D')) = (p.join (readP t)).holeTo 27) := rj.hole
      have CEE : Hid (checkE n p (readP t) = if (!D'.any (foreignF (n : Int))) = true then (if (joinD D D').any (holeF (joinD D D')) = true then 7 else if E'.any (clashE E) = true then 8 else 0) else 6) := by
        show _ = _; rw [checkE, FO.out, HO.out, CL.out]
      rw [← BR.out] at S
      clear FO BR CL HO hG rj j1 j2 q1 q2 q3 HRel HFi
      generalize D'.any (foreignF (n : Int)) = fo at *
      generalize D'.any (bringsF D) = br at *
      generalize E'.any (clashE E) = cl at *
      generalize (joinD D D').any (holeF (joinD D D')) = ho at *
      generalize checkE n p (readP t) = ce at *
      generalize readP t = q at *
      go_wp2_with fail
      refine (HI1.out _).mono ?_
      rintro e w9 ⟨rfl, hw9⟩
      subst w9
      cases hr1 : isRepB c1
      · have H5 := hid (S.out.h5 (by rw [OKE.out]; rw [hr1]; simp))
        go_wp2
        go_ret2
        rw [H5.out.1, H5.out.2.1, H5.out.2.2.1, H5.out.2.2.2]
        exact ⟨rfl, RefStep.same HRef.out (B1.out.al _)⟩
      · go_wp2_with fail
        refine (HI2.out _).mono ?_
        rintro e w9 ⟨rfl, hw9⟩
        subst w9
        cases hr2 : isRepB c2
        · have H5 := hid (S.out.h5 (by rw [OKE.out]; rw [hr2]; simp))
          go_wp2
          go_ret2
          rw [H5.out.1, H5.out.2.1, H5.out.2.2.1, H5.out.2.2.2]
          exact ⟨rfl, RefStep.same HRef.out (B1.out.al _)⟩
        · cases dg
          · have H5 := hid (S.out.h5 (by rw [OKE.out]; simp))
            go_wp2
            go_ret2
            rw [H5.out.1, H5.out.2.1, H5.out.2.2.1, H5.out.2.2.2]
            exact ⟨rfl, RefStep.same HRef.out (B1.out.al _)⟩
          · have OKX : Hid (ok = true) := by show _ = _; rw [OKE.out, RO.out, hr1, hr2]; rfl
            have HW := hid (fun wx hw => rwho_any cb me n (.slice ao D.length ca) (.slice bo E.length cb') x.had lt ac x.log c1 c2 wx hr1 hr2 hw)
            have FMT : Hid (forMe me n (c1.toNat - 48) (c2.toNat - 48) = true → c2.toNat - 48 = me) := by
              intro h; simp only [forMe, Bool.and_eq_true, decide_eq_true_eq] at h; exact h.1
            have R12 := hid (And.intro ((isRepB_iff _).1 hr1) ((isRepB_iff _).1 hr2))
            clear hr1 hr2 HI1 HI2
            generalize forMe me n (c1.toNat - 48) (c2.toNat - 48) = fm at *
            have W2 := hid (FB.start HC.out HPa.out B1.out PQ.out)
            go_upto_region 7 with fail
            generalize w1.alloc (.cells #[.slice ao' D'.length ca', .slice bo' E'.length cb2] 120) = w2 at *
            generalize w1.heap.size = pb at *
            go_quiet (first | (go_at_call 109; refine Calls.quiet_of_same (HW.out _ (show (World.drewN _ _).heap[cb]? = _ from W2.out.c))))
            have W3 := hid (W2.out.on ((Blw.rfl w2).drn nq))
            generalize w2.drewN nq = w3 at *
            obtain ⟨c1x, c2x, c3x, p0, p1⟩ := W3.out.cells
            go_wp2_with fail
            go_region_held3 (fun w' => w'.cell? ⟨cb, 1, none⟩ = some (.int .i64 n) ∧ w'.cell? ⟨cb, 2, none⟩ = some (.slice ao D.length ca) ∧ w'.cell? ⟨cb, 3, none⟩ = some (.slice bo E.length cb') ∧ w'.cell? ⟨pb, 0, none⟩ = some (.slice ao' D'.length ca') ∧ w'.cell? ⟨pb, 1, none⟩ = some (.slice bo' E'.length cb2)) (first | exact Q1.out | exact ⟨c1x, c2x, c3x, p0, p1⟩)
              (first | (go_at_call 110; refine (HFo.out _ (W3.out.pq.on (Blw.dr (Blw.rfl _)))).mono ?_; rintro e w4 ⟨rfl, bq⟩; have BQ := hid (Blw.tr (Blw.dr (Blw.rfl _)) bq); have W4 := hid (W3.out.on BQ.out); have Q1 := hid W4.out.cells; clear bq))
            clear c1x c2x c3x p0 p1 Q1 BQ
            cases fm
            · have H6 := hid (S.out.h6 OKX.out (by trivial))
              go_wp2
              go_ret2
              rw [H6.out.1, H6.out.2.1, H6.out.2.2.1, H6.out.2.2.2]
              exact ⟨rfl, RefStep.same HRef.out W4.out.bl⟩
            · cases fo
              · obtain ⟨c1x, c2x, c3x, p0, p1⟩ := W4.out.cells
                have z0 := lt_of_blk W4.out.c
                have z1 := lt_of_blk W4.out.p
                go_wp2_with fail
                go_cut [11] (fun s w' => ∃ jb u v, s = .pointer (some ⟨jb, 0, none⟩) ∧ w'.heap[jb]? = some (.cells #[u, v] 120) ∧ Ls w' 0 u (joinD D D') ∧ Ls w' 0 v (joinE D E D' E') ∧ Blw w4 w')
                case first =>
                  go_region_with (first | (go_at_call 111; refine (HJ.out _ (W4.out.pa.on (by first | exact Blw.dr (Blw.rfl _) | exact Blw.dr ((Blw.rfl _).al _))) (W4.out.pq.on (by first | exact Blw.dr (Blw.rfl _) | exact Blw.dr ((Blw.rfl _).al _)))).mono ?_; rintro e w6 ⟨u, v, rfl, k1, k2, b6⟩; obtain ⟨uo, uc, rfl, _⟩ := k1.op; obtain ⟨vo, vc, rfl, _⟩ := k2.op; have sz6 : w4.heap.size ≤ w6.heap.size := (by have := b6.sz; simp at this; omega); (first | (have R := hid (put2B b6 k1 k2); obtain ⟨y0, y1, y2, y3⟩ := cellB b6) | (have R := hid (put2A b6 k1 k2)))))
                  all_goals
                    go_wp2_with fail
                    go_meet
                    case rel => exact ⟨_, _, _, rfl, R.out.1, R.out.2.1, R.out.2.2.1, R.out.2.2.2⟩
                case rest =>
                  obtain ⟨jb, u, v, rfl, g1, g2, g3, g4⟩ := hcut
                  obtain ⟨uo, uc, rfl, _⟩ := g2.op
                  obtain ⟨vo, vc, rfl, _⟩ := g3.op
                  have W5 := hid (W4.out.on g4)
                  have PJ := hid (RJ.out.pcAt JF.out.ok g2 g3)
                  have d0 := blk_cell g1 0
                  have d1 := blk_cell g1 1
                  clear c1x c2x c3x p0 p1 g1 g2 g3 g4 z0 z1
                  generalize (joinD D D').length = jl at *
                  generalize (joinE D E D' E').length = el at *
                  go_wp2_with fail
                  refine (HHo.out _ _ _ PJ.out).mono ?_
                  rintro e w6 ⟨rfl, b6⟩
                  have W6 := hid (W5.out.on b6)
                  clear d0 d1 PJ W5 b6
                  cases ho
                  · obtain ⟨c1x, c2x, c3x, p0, p1⟩ := W6.out.cells
                    go_wp2_with fail
                    go_region_held3 (fun w' => w'.cell? ⟨cb, 1, none⟩ = some (.int .i64 n) ∧ w'.cell? ⟨cb, 2, none⟩ = some (.slice ao D.length ca) ∧ w'.cell? ⟨cb, 3, none⟩ = some (.slice bo E.length cb') ∧ w'.cell? ⟨pb, 0, none⟩ = some (.slice ao' D'.length ca') ∧ w'.cell? ⟨pb, 1, none⟩ = some (.slice bo' E'.length cb2)) (first | exact Q1.out | exact ⟨c1x, c2x, c3x, p0, p1⟩)
                      (first | (go_at_call 113; refine (HCl.out _ (W6.out.pa.on (Blw.dr (Blw.rfl _))) (W6.out.pq.on (Blw.dr (Blw.rfl _)))).mono ?_; rintro e w7 ⟨rfl, bq⟩; have BQ := hid (Blw.tr (Blw.dr (Blw.rfl _)) bq); have W7 := hid (W6.out.on BQ.out); have Q1 := hid W7.out.cells; clear bq))
                    clear c1x c2x c3x p0 p1 Q1 BQ
                    cases cl
                    · obtain ⟨c1x, c2x, c3x, p0, p1⟩ := W7.out.cells
                      go_wp2_with fail
                      go_region_held3 (fun w' => w'.cell? ⟨cb, 1, none⟩ = some (.int .i64 n) ∧ w'.cell? ⟨cb, 2, none⟩ = some (.slice ao D.length ca) ∧ w'.cell? ⟨cb, 3, none⟩ = some (.slice bo E.length cb') ∧ w'.cell? ⟨pb, 0, none⟩ = some (.slice ao' D'.length ca') ∧ w'.cell? ⟨pb, 1, none⟩ = some (.slice bo' E'.length cb2)) (first | exact Q1.out | exact ⟨c1x, c2x, c3x, p0, p1⟩)
                        (first | (go_at_call 114; refine (HBr.out _ (W7.out.pa.on (Blw.dr (Blw.rfl _))) (W7.out.pq.on (Blw.dr (Blw.rfl _)))).mono ?_; rintro e w8 ⟨rfl, bq⟩; have BQ := hid (Blw.tr (Blw.dr (Blw.rfl _)) bq); have W8 := hid (W7.out.on BQ.out); have Q1 := hid W8.out.cells; clear bq))
                      clear c1x c2x c3x p0 p1 Q1 BQ
                      have CE0 : Hid (ce = 0) := by show _ = _; rw [CEE.out]; rfl
                      cases br
                      · have H8 := hid (S.out.h8 OKX.out (by trivial) CE0.out (by trivial))
                        go_wp2_with fail
                        go_region
                        go_wp2
                        go_ret2
                        rw [H8.out.1, H8.out.2.1, H8.out.2.2.1, H8.out.2.2.2]
                        exact ⟨by first | exact congrArg (fun b => Ending.returned (.tuple #[.string b, .int .i64 0])) (HANS.out R12.out (FMT.out (by trivial)) (by trivial)) | skip, RefStep.same HRef.out (by first | exact W8.out.bl.dr | exact W8.out.bl | exact W8.out.bl.drn _)⟩
                      · have H9 := hid (S.out.h9 OKX.out (by trivial) CE0.out (by trivial))
                        obtain ⟨c1x, c2x, c3x, p0, p1⟩ := W8.out.cells
                        have HLe := hid (rlearn_any cb me n (.slice ao D.length ca) (.slice bo E.length cb') (.slice ao' D'.length ca') (.slice bo' E'.length cb2) x.had ln lt ac x.log D E D' E' ls w8 W8.out.c W8.out.pa W8.out.pq (HLt.out.on W8.out.bl) hln.out.le hxs.h hxs.l hwl _ q (hln.out.lats.on W8.out.bl) RLQ.out.1 RLQ.out.2 _ rfl (x.had + 1) (if ln = 4 then 4 else ln + 1) (x.log ++ frameL ([68] ++ q.text)) _ _ rfl rfl (by rw [HWR.out]) rfl rfl)
                        go_wp2_with fail
                        refine HLe.out.mono ?_
                        rintro e w9 ⟨rfl, r9⟩
                        have RT : Hid (RefStep cb me n (p.join q) (x.next q) lt w w9) := by
                          obtain ⟨u', v', lt', ls', i1, i2, i3, i4, i5⟩ := r9.at_
                          refine ⟨⟨lt', ⟨u', v', ac, _, _, _, ls', i1, i2, i3, i4.1, (hln.out.on W8.out.bl).next (HLt.out.on W8.out.bl) q i4.2 r9.bs, RJ.out⟩, i5.imp id (fun ⟨g, e, k⟩ => ⟨g, e, Nat.le_trans W8.out.bl.sz k⟩)⟩, (W8.out.bl.b2 _).tr (r9.bs.weak (fun i hi => .inl hi))⟩
                        clear r9 c1x c2x c3x p0 p1
                        go_wp2_with fail
                        go_region
                        go_wp2
                        go_ret2
                        rw [H9.out.1, H9.out.2.1, H9.out.2.2.1, H9.out.2.2.2]
                        exact ⟨by first | exact congrArg (fun b => Ending.returned (.tuple #[.string b, .int .i64 0])) (HANS.out R12.out (FMT.out (by trivial)) (by trivial)) | skip, by first | exact RT.out.post (Blw.dr (Blw.rfl _)) | exact RT.out⟩
                    · have H7 := hid (S.out.h7 OKX.out (by trivial) (by rw [CEE.out]; decide))
                      have E7 : Hid (er = 8) := by show _ = _; rw [H7.out.1, CEE.out]; rfl
                      go_wp2
                      go_ret2
                      rw [E7.out, H7.out.2.1, H7.out.2.2.1, H7.out.2.2.2]
                      exact ⟨rfl, RefStep.same HRef.out W7.out.bl⟩
                  · have H7 := hid (S.out.h7 OKX.out (by trivial) (by rw [CEE.out]; simp))
                    have E7 : Hid (er = 7) := by show _ = _; rw [H7.out.1, CEE.out]; simp
                    go_wp2
                    go_ret2
                    rw [E7.out, H7.out.2.1, H7.out.2.2.1, H7.out.2.2.2]
                    exact ⟨rfl, RefStep.same HRef.out W6.out.bl⟩
              · have H7 := hid (S.out.h7 OKX.out (by trivial) (by rw [CEE.out]; simp))
                have E7 : Hid (er = 6) := by show _ = _; rw [H7.out.1, CEE.out]; simp
                go_wp2
                go_ret2
                rw [E7.out, H7.out.2.1, H7.out.2.2.1, H7.out.2.2.2]
                exact ⟨rfl, RefStep.same HRef.out W4.out.bl⟩
    · have RO : Hid (readOk t = false) := noread hno
      go_wp2_with fail
      refine (HI1.out _).mono ?_
      rintro e w9 ⟨rfl, hw9⟩
      subst w9
      cases hr1 : isRepB c1
      · have H5 := hid (S.out.h5 (by rw [OKE.out]; rw [hr1]; simp))
        go_wp2
        go_ret2
        rw [H5.out.1, H5.out.2.1, H5.out.2.2.1, H5.out.2.2.2]
        exact ⟨rfl, RefStep.same HRef.out (B1.out.al _)⟩
      · go_wp2_with fail
        refine (HI2.out _).mono ?_
        rintro e w9 ⟨rfl, hw9⟩
        subst w9
        cases hr2 : isRepB c2
        · have H5 := hid (S.out.h5 (by rw [OKE.out]; rw [hr2]; simp))
          go_wp2
          go_ret2
          rw [H5.out.1, H5.out.2.1, H5.out.2.2.1, H5.out.2.2.2]
          exact ⟨rfl, RefStep.same HRef.out (B1.out.al _)⟩
        · cases dg
          · have H5 := hid (S.out.h5 (by rw [OKE.out]; simp))
            go_wp2
            go_ret2
            rw [H5.out.1, H5.out.2.1, H5.out.2.2.1, H5.out.2.2.2]
            exact ⟨rfl, RefStep.same HRef.out (B1.out.al _)⟩
          · have H5 := hid (S.out.h5 (by rw [OKE.out, RO.out]; simp))
            go_wp2
            go_ret2
            rw [H5.out.1, H5.out.2.1, H5.out.2.2.1, H5.out.2.2.2]
            exact ⟨rfl, RefStep.same HRef.out (B1.out.al _)⟩
  · have g73 : ((c0.toNat : Int) != 73) = true := by
      rw [bne, show ((c0.toNat : Int) == 73) = false from nb 73 (fun e => k73 (UInt8.toNat_inj.1 e))]; rfl
    by_cases k70 : c0 = 70
    · have OKE : Hid (ok = ((isRepB c1 && (isRepB c2 && dg)) && readOk t)) := by show _ = _; rw [OKE0.out, k70]; simp
      have g70 : ((c0.toNat : Int) != 70) = false := by rw [k70]; rfl
      clear OKE0 k70 k73 nb
      go_enter Tryz.func55, Tryz.ntmps55
      go_wp2_with fail
      rw [HX3.out]
      refine (HAL.out _).mono ?_
      rintro e w9 ⟨rfl, hw9⟩
      subst w9
      go_wp2_with fail
      rw [HX5.out]
      refine (HR.out _).mono ?_
      rintro e w1 ⟨b1, hres⟩
      have B1 := hid b1
      clear b1
      rcases hres with ⟨a', b', D', E', rfl, j1, j2, hG⟩ | ⟨rfl, hno⟩
      · have RO : Hid (readOk t = true) := good_read hG
        obtain ⟨q1, q2, q3⟩ := good_readP hG
        have PQ := hid (q1.pcAt q2.ok j1 j2)
        obtain ⟨ao', ca', rfl, _⟩ := j1.op
        obtain ⟨bo', cb2, rfl, _⟩ := j2.op
        have rj := rel_join HRel.out q1 HFi.out q2
        have RJ := hid rj
        have JF := hid (join_fine HFi.out q2)
        have RLQ := hid (And.intro q1 q2)
        have HWR : Hid (writeL D' E' = (readP t).text) := q1.write q2.ok
        have hwl : (writeL D' E').length < 998 := by rw [HWR.out]; have := text_len' (readP t) q2.ok; omega
        have HFo := hid (fun wx hx => foreign_any (.slice ao' D'.length ca') (.slice bo' E'.length cb2) D' E' (n : Int) wx hx)
        have HBr := hid (fun wx hx hx' => brings_any (.slice ao D.length ca) (.slice bo E.length cb') (.slice ao' D'.length ca') (.slice bo' E'.length cb2) D E D' E' wx hx hx')
        have HCl := hid (fun wx hx hx' => rclash_any (.slice ao D.length ca) (.slice bo E.length cb') (.slice ao' D'.length ca') (.slice bo' E'.length cb2) D E D' E' wx hx hx')
        have HJ := hid (fun wx hx hx' => rjoin_any (.slice ao D.length ca) (.slice bo E.length cb') (.slice ao' D'.length ca') (.slice bo' E'.length cb2) D E D' E' wx hx hx')
        have HHo := hid (fun u v wx hx => rhole_any u v (joinD D D') (joinE D E D' E') wx hx)
        have FO : Hid (ofTo (readP t) n 3 = !D'.any (foreignF (n : Int))) := by show _ = _; rw [q1.foreign n, Bool.not_not]
        have BR : Hid (D'.any (bringsF D) = decide (p.dots < (p.join (readP t)).dots)) := HRel.out.brings q1
        have CL : Hid (E'.any (clashE E) = clashTo p (readP t) 27) := HRel.out.clash q1 HFi.out.ok q2.ok
        have HO : Hid ((joinD D D').any (holeF (joinD D D')) = (p.join (readP t)).holeTo 27) := rj.hole
        have CEE : Hid (checkE n p (readP t) = if (!D'.any (foreignF (n : Int))) = true then (if (joinD D D').any (holeF (joinD D D')) = true then 7 else if E'.any (clashE E) = true then 8 else 0) else 6) := by
          show _ = _; rw [checkE, FO.out, HO.out, CL.out]
        rw [← BR.out] at S
        clear FO BR CL HO hG rj j1 j2 q1 q2 q3 HRel HFi
        generalize D'.any (foreignF (n : Int)) = fo at *
        generalize D'.any (bringsF D) = br at *
        generalize E'.any (clashE E) = cl at *
        generalize (joinD D D').any (holeF (joinD D D')) = ho at *
        generalize checkE n p (readP t) = ce at *
        generalize readP t = q at *
        go_wp2_with fail
        refine (HI1.out _).mono ?_
        rintro e w9 ⟨rfl, hw9⟩
        subst w9
        cases hr1 : isRepB c1
        · have H5 := hid (S.out.h5 (by rw [OKE.out]; rw [hr1]; simp))
          go_wp2
          go_ret2
          rw [H5.out.1, H5.out.2.1, H5.out.2.2.1, H5.out.2.2.2]
          exact ⟨rfl, RefStep.same HRef.out (B1.out.al _)⟩
        · go_wp2_with fail
          refine (HI2.out _).mono ?_
          rintro e w9 ⟨rfl, hw9⟩
          subst w9
          cases hr2 : isRepB c2
          · have H5 := hid (S.out.h5 (by rw [OKE.out]; rw [hr2]; simp))
            go_wp2
            go_ret2
            rw [H5.out.1, H5.out.2.1, H5.out.2.2.1, H5.out.2.2.2]
            exact ⟨rfl, RefStep.same HRef.out (B1.out.al _)⟩
          · cases dg
            · have H5 := hid (S.out.h5 (by rw [OKE.out]; simp))
              go_wp2
              go_ret2
              rw [H5.out.1, H5.out.2.1, H5.out.2.2.1, H5.out.2.2.2]
              exact ⟨rfl, RefStep.same HRef.out (B1.out.al _)⟩
            · have OKX : Hid (ok = true) := by show _ = _; rw [OKE.out, RO.out, hr1, hr2]; rfl
              have HW := hid (fun wx hw => rwho_any cb me n (.slice ao D.length ca) (.slice bo E.length cb') x.had lt ac x.log c1 c2 wx hr1 hr2 hw)
              have FMT : Hid (forMe me n (c1.toNat - 48) (c2.toNat - 48) = true → c2.toNat - 48 = me) := by
                intro h; simp only [forMe, Bool.and_eq_true, decide_eq_true_eq] at h; exact h.1
              have R12 := hid (And.intro ((isRepB_iff _).1 hr1) ((isRepB_iff _).1 hr2))
              clear hr1 hr2 HI1 HI2
              generalize forMe me n (c1.toNat - 48) (c2.toNat - 48) = fm at *
              have W2 := hid (FB.start HC.out HPa.out B1.out PQ.out)
              go_upto_region 7 with fail
              generalize w1.alloc (.cells #[.slice ao' D'.length ca', .slice bo' E'.length cb2] 120) = w2 at *
              generalize w1.heap.size = pb at *
              go_quiet (first | (go_at_call 109; refine Calls.quiet_of_same (HW.out _ (show (World.drewN _ _).heap[cb]? = _ from W2.out.c))))
              have W3 := hid (W2.out.on ((Blw.rfl w2).drn nq))
              generalize w2.drewN nq = w3 at *
              obtain ⟨c1x, c2x, c3x, p0, p1⟩ := W3.out.cells
              go_wp2_with fail
              go_region_held3 (fun w' => w'.cell? ⟨cb, 1, none⟩ = some (.int .i64 n) ∧ w'.cell? ⟨cb, 2, none⟩ = some (.slice ao D.length ca) ∧ w'.cell? ⟨cb, 3, none⟩ = some (.slice bo E.length cb') ∧ w'.cell? ⟨pb, 0, none⟩ = some (.slice ao' D'.length ca') ∧ w'.cell? ⟨pb, 1, none⟩ = some (.slice bo' E'.length cb2)) (first | exact Q1.out | exact ⟨c1x, c2x, c3x, p0, p1⟩)
                (first | (go_at_call 110; refine (HFo.out _ (W3.out.pq.on (Blw.dr (Blw.rfl _)))).mono ?_; rintro e w4 ⟨rfl, bq⟩; have BQ := hid (Blw.tr (Blw.dr (Blw.rfl _)) bq); have W4 := hid (W3.out.on BQ.out); have Q1 := hid W4.out.cells; clear bq))
              clear c1x c2x c3x p0 p1 Q1 BQ
              cases fm
              · have H6 := hid (S.out.h6 OKX.out (by trivial))
                go_wp2
                go_ret2
                rw [H6.out.1, H6.out.2.1, H6.out.2.2.1, H6.out.2.2.2]
                exact ⟨rfl, RefStep.same HRef.out W4.out.bl⟩
              · cases fo
                · obtain ⟨c1x, c2x, c3x, p0, p1⟩ := W4.out.cells
                  have z0 := lt_of_blk W4.out.c
                  have z1 := lt_of_blk W4.out.p
                  go_wp2_with fail
                  go_cut [11] (fun s w' => ∃ jb u v, s = .pointer (some ⟨jb, 0, none⟩) ∧ w'.heap[jb]? = some (.cells #[u, v] 120) ∧ Ls w' 0 u (joinD D D') ∧ Ls w' 0 v (joinE D E D' E') ∧ Blw w4 w')
                  case first =>
                    go_region_with (first | (go_at_call 111; refine (HJ.out _ (W4.out.pa.on (by first | exact Blw.dr (Blw.rfl _) | exact Blw.dr ((Blw.rfl _).al _))) (W4.out.pq.on (by first | exact Blw.dr (Blw.rfl _) | exact Blw.dr ((Blw.rfl _).al _)))).mono ?_; rintro e w6 ⟨u, v, rfl, k1, k2, b6⟩; obtain ⟨uo, uc, rfl, _⟩ := k1.op; obtain ⟨vo, vc, rfl, _⟩ := k2.op; have sz6 : w4.heap.size ≤ w6.heap.size := (by have := b6.sz; simp at this; omega); (first | (have R := hid (put2B b6 k1 k2); obtain ⟨y0, y1, y2, y3⟩ := cellB b6) | (have R := hid (put2A b6 k1 k2)))))
                    all_goals
                      go_wp2_with fail
                      go_meet
                      case rel => exact ⟨_, _, _, rfl, R.out.1, R.out.2.1, R.out.2.2.1, R.out.2.2.2⟩
                  case rest =>
                    obtain ⟨jb, u, v, rfl, g1, g2, g3, g4⟩ := hcut
                    obtain ⟨uo, uc, rfl, _⟩ := g2.op
                    obtain ⟨vo, vc, rfl, _⟩ := g3.op
                    have W5 := hid (W4.out.on g4)
                    have PJ := hid (RJ.out.pcAt JF.out.ok g2 g3)
                    have d0 := blk_cell g1 0
                    have d1 := blk_cell g1 1
                    clear c1x c2x c3x p0 p1 g1 g2 g3 g4 z0 z1
                    generalize (joinD D D').length = jl at *
                    generalize (joinE D E D' E').length = el at *
                    go_wp2_with fail
                    refine (HHo.out _ _ _ PJ.out).mono ?_
                    rintro e w6 ⟨rfl, b6⟩
                    have W6 := hid (W5.out.on b6)
                    clear d0 d1 PJ W5 b6
                    cases ho
                    · obtain ⟨c1x, c2x, c3x, p0, p1⟩ := W6.out.cells
                      go_wp2_with fail
                      go_region_held3 (fun w' => w'.cell? ⟨cb, 1, none⟩ = some (.int .i64 n) ∧ w'.cell? ⟨cb, 2, none⟩ = some (.slice ao D.length ca) ∧ w'.cell? ⟨cb, 3, none⟩ = some (.slice bo E.length cb') ∧ w'.cell? ⟨pb, 0, none⟩ = some (.slice ao' D'.length ca') ∧ w'.cell? ⟨pb, 1, none⟩ = some (.slice bo' E'.length cb2)) (first | exact Q1.out | exact ⟨c1x, c2x, c3x, p0, p1⟩)
                        (first | (go_at_call 113; refine (HCl.out _ (W6.out.pa.on (Blw.dr (Blw.rfl _))) (W6.out.pq.on (Blw.dr (Blw.rfl _)))).mono ?_; rintro e w7 ⟨rfl, bq⟩; have BQ := hid (Blw.tr (Blw.dr (Blw.rfl _)) bq); have W7 := hid (W6.out.on BQ.out); have Q1 := hid W7.out.cells; clear bq))
                      clear c1x c2x c3x p0 p1 Q1 BQ
                      cases cl
                      · obtain ⟨c1x, c2x, c3x, p0, p1⟩ := W7.out.cells
                        go_wp2_with fail
                        go_region_held3 (fun w' => w'.cell? ⟨cb, 1, none⟩ = some (.int .i64 n) ∧ w'.cell? ⟨cb, 2, none⟩ = some (.slice ao D.length ca) ∧ w'.cell? ⟨cb, 3, none⟩ = some (.slice bo E.length cb') ∧ w'.cell? ⟨pb, 0, none⟩ = some (.slice ao' D'.length ca') ∧ w'.cell? ⟨pb, 1, none⟩ = some (.slice bo' E'.length cb2)) (first | exact Q1.out | exact ⟨c1x, c2x, c3x, p0, p1⟩)
                          (first | (go_at_call 114; refine (HBr.out _ (W7.out.pa.on (Blw.dr (Blw.rfl _))) (W7.out.pq.on (Blw.dr (Blw.rfl _)))).mono ?_; rintro e w8 ⟨rfl, bq⟩; have BQ := hid (Blw.tr (Blw.dr (Blw.rfl _)) bq); have W8 := hid (W7.out.on BQ.out); have Q1 := hid W8.out.cells; clear bq))
                        clear c1x c2x c3x p0 p1 Q1 BQ
                        have CE0 : Hid (ce = 0) := by show _ = _; rw [CEE.out]; rfl
                        cases br
                        · have H8 := hid (S.out.h8 OKX.out (by trivial) CE0.out (by trivial))
                          go_wp2_with fail
                          go_region
                          go_wp2
                          go_ret2
                          rw [H8.out.1, H8.out.2.1, H8.out.2.2.1, H8.out.2.2.2]
                          exact ⟨by first | exact congrArg (fun b => Ending.returned (.tuple #[.string b, .int .i64 0])) (HANS.out R12.out (FMT.out (by trivial)) (by trivial)) | skip, RefStep.same HRef.out (by first | exact W8.out.bl.dr | exact W8.out.bl | exact W8.out.bl.drn _)⟩
                        · have H9 := hid (S.out.h9 OKX.out (by trivial) CE0.out (by trivial))
                          obtain ⟨c1x, c2x, c3x, p0, p1⟩ := W8.out.cells
                          have HLe := hid (rlearn_any cb me n (.slice ao D.length ca) (.slice bo E.length cb') (.slice ao' D'.length ca') (.slice bo' E'.length cb2) x.had ln lt ac x.log D E D' E' ls w8 W8.out.c W8.out.pa W8.out.pq (HLt.out.on W8.out.bl) hln.out.le hxs.h hxs.l hwl _ q (hln.out.lats.on W8.out.bl) RLQ.out.1 RLQ.out.2 _ rfl (x.had + 1) (if ln = 4 then 4 else ln + 1) (x.log ++ frameL ([68] ++ q.text)) _ _ rfl rfl (by rw [HWR.out]) rfl rfl)
                          go_wp2_with fail
                          refine HLe.out.mono ?_
                          rintro e w9 ⟨rfl, r9⟩
                          have RT : Hid (RefStep cb me n (p.join q) (x.next q) lt w w9) := by
                            obtain ⟨u', v', lt', ls', i1, i2, i3, i4, i5⟩ := r9.at_
                            refine ⟨⟨lt', ⟨u', v', ac, _, _, _, ls', i1, i2, i3, i4.1, (hln.out.on W8.out.bl).next (HLt.out.on W8.out.bl) q i4.2 r9.bs, RJ.out⟩, i5.imp id (fun ⟨g, e, k⟩ => ⟨g, e, Nat.le_trans W8.out.bl.sz k⟩)⟩, (W8.out.bl.b2 _).tr (r9.bs.weak (fun i hi => .inl hi))⟩
                          clear r9 c1x c2x c3x p0 p1
                          go_wp2_with fail
                          go_region
                          go_wp2
                          go_ret2
                          rw [H9.out.1, H9.out.2.1, H9.out.2.2.1, H9.out.2.2.2]
                          exact ⟨by first | exact congrArg (fun b => Ending.returned (.tuple #[.string b, .int .i64 0])) (HANS.out R12.out (FMT.out (by trivial)) (by trivial)) | skip, by first | exact RT.out.post (Blw.dr (Blw.rfl _)) | exact RT.out⟩
                      · have H7 := hid (S.out.h7 OKX.out (by trivial) (by rw [CEE.out]; decide))
                        have E7 : Hid (er = 8) := by show _ = _; rw [H7.out.1, CEE.out]; rfl
                        go_wp2
                        go_ret2
                        rw [E7.out, H7.out.2.1, H7.out.2.2.1, H7.out.2.2.2]
                        exact ⟨rfl, RefStep.same HRef.out W7.out.bl⟩
                    · have H7 := hid (S.out.h7 OKX.out (by trivial) (by rw [CEE.out]; simp))
                      have E7 : Hid (er = 7) := by show _ = _; rw [H7.out.1, CEE.out]; simp
                      go_wp2
                      go_ret2
                      rw [E7.out, H7.out.2.1, H7.out.2.2.1, H7.out.2.2.2]
                      exact ⟨rfl, RefStep.same HRef.out W6.out.bl⟩
                · have H7 := hid (S.out.h7 OKX.out (by trivial) (by rw [CEE.out]; simp))
                  have E7 : Hid (er = 6) := by show _ = _; rw [H7.out.1, CEE.out]; simp
                  go_wp2
                  go_ret2
                  rw [E7.out, H7.out.2.1, H7.out.2.2.1, H7.out.2.2.2]
                  exact ⟨rfl, RefStep.same HRef.out W4.out.bl⟩
      · have RO : Hid (readOk t = false) := noread hno
        go_wp2_with fail
        refine (HI1.out _).mono ?_
        rintro e w9 ⟨rfl, hw9⟩
        subst w9
        cases hr1 : isRepB c1
        · have H5 := hid (S.out.h5 (by rw [OKE.out]; rw [hr1]; simp))
          go_wp2
          go_ret2
          rw [H5.out.1, H5.out.2.1, H5.out.2.2.1, H5.out.2.2.2]
          exact ⟨rfl, RefStep.same HRef.out (B1.out.al _)⟩
        · go_wp2_with fail
          refine (HI2.out _).mono ?_
          rintro e w9 ⟨rfl, hw9⟩
          subst w9
          cases hr2 : isRepB c2
          · have H5 := hid (S.out.h5 (by rw [OKE.out]; rw [hr2]; simp))
            go_wp2
            go_ret2
            rw [H5.out.1, H5.out.2.1, H5.out.2.2.1, H5.out.2.2.2]
            exact ⟨rfl, RefStep.same HRef.out (B1.out.al _)⟩
          · cases dg
            · have H5 := hid (S.out.h5 (by rw [OKE.out]; simp))
              go_wp2
              go_ret2
              rw [H5.out.1, H5.out.2.1, H5.out.2.2.1, H5.out.2.2.2]
              exact ⟨rfl, RefStep.same HRef.out (B1.out.al _)⟩
            · have H5 := hid (S.out.h5 (by rw [OKE.out, RO.out]; simp))
              go_wp2
              go_ret2
              rw [H5.out.1, H5.out.2.1, H5.out.2.2.1, H5.out.2.2.2]
              exact ⟨rfl, RefStep.same HRef.out (B1.out.al _)⟩
    · have g70 : ((c0.toNat : Int) != 70) = true := by
        rw [bne, show ((c0.toNat : Int) == 70) = false from nb 70 (fun e => k70 (UInt8.toNat_inj.1 e))]; rfl
      have H5 := hid (S.out.h5 (by rw [OKE0.out]; simp [k73, k70]))
      clear OKE0 k70 k73 nb
      go_enter Tryz.func55, Tryz.ntmps55
      go_wp2
      go_ret2
      rw [H5.out.1, H5.out.2.1, H5.out.2.2.1, H5.out.2.2.2]
      exact ⟨rfl, RefStep.same HRef.out (Blw.rfl _)⟩
end Go.Proofs.YtalaldfgjgpacaaGreatDoor
