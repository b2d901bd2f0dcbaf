import Derived.Test.YtalaldfgjgpacaaGreatDoorHBA
import Derived.Deep.RegionHeld3
import Derived.BigRegion
namespace Go.Proofs.YtalaldfgjgpacaaGreatDoor
set_option linter.unusedVariables false
set_option linter.unusedSimpArgs false
open Go.RowKit
attribute [local go_sem ↓] Go.wp_at_zero Go.wp_at_succ sliced_zero

set_option maxRecDepth 100000 in
set_option maxHeartbeats 8000000 in
theorem crash_b1n {w : World} {m : CM} {s : CS} {r : Nat} {k : Int} {p0 : Pc} {x0 : Ext} (h : ClAt w m s) (hr : r < s.n) (hp : (s.p r).ok) (hll : s.lg.length ≤ 100000) (hlo : (s.x r).log.length ≤ 9000) (hl : s.last = r) (hne : (s.x r).log ≠ s.lg) (hb : ((s.x r).log.take s.lg.length == s.lg) = true) (hcl : s.client < 0) (hk1 : -9223372036854775808 ≤ k) (hk2 : k ≤ 9223372036854775807) (he1 : s.nevs ≤ s.evs.length) (he2 : s.nwire ≤ s.wire.length) (he3 : s.nacks ≤ s.acks.length) (C : CrashOk s r k p0 x0) (h0 : s.cut r k ≠ 0) :
    Calls Tryz.prog 61 #[.pointer (some ⟨m.cb, 0, none⟩), .int .i64 r, .int .i64 k] w fun e w' => e = .returned (.bool true) ∧ ∃ m', Moved w w' m m' (s.crash r k) := by
  have hn3 := h.n3
  have hn1 := h.n1
  obtain ⟨F, hF⟩ : ∃ F : World → Prop, F = fun w' => ∃ m', Moved w w' m m' (s.crash r k) := ⟨_, rfl⟩
  rw [show (fun e w' => e = Ending.returned (.bool true) ∧ ∃ m', Moved w w' m m' (s.crash r k)) = fun e w' => e = Ending.returned (.bool true) ∧ F w' by rw [hF]]
  have HF := hid hF
  have HLG := hid (log_any (m.b r) r s.n (s.p r) (s.x r) w (h.xs.rep r hr))
  have HS0 := hid (state_any (xt := s.x r) (m.b r) r s.n (s.p r) w hn3 hp (h.xs.rep r hr))
  obtain ⟨ya, hya⟩ : ∃ ya : ByteArray, ya = ⟨((s.p r).digsTo s.n ++ [59] ++ (s.p r).entTo 12).toArray⟩ := ⟨_, rfl⟩
  rw [← hya] at HS0
  have hcr : s.crash r k = (s.undo r).again r (s.left r k) := by unfold CS.crash; rw [if_neg h0]
  have hop := C.op
  have hsst := C.yes h0
  obtain ⟨le, hle⟩ : ∃ le, le = s.left r k := ⟨_, rfl⟩
  have hlel : le.length ≤ 9000 := by rw [hle]; exact C.len
  rw [← hle] at hop hcr
  obtain ⟨st, hst⟩ : ∃ st, st = stL p0 s.n := ⟨_, rfl⟩
  have HOP := hid (fun (wx : World) (ht : Tab Tryz.prog wx) => open_yes r s.n le (opened s.n le) wx rfl hlel hn3 hr ht)
  rw [hop] at HOP
  have HST := hid (fun (wx : World) (b : Nat) (hb : wx.heap[b]? = some (.cells (repArr r s.n p0 x0.bare) 69)) => state_any (xt := x0.bare) b r s.n p0 wx hn3 C.ok hb)
  rw [show p0.digsTo s.n ++ [59] ++ p0.entTo 12 = stL p0 s.n from rfl, ← hst] at HST
  have hsl : (s.n : Int) < (st.length : Int) := by
    rw [hst]; unfold stL
    rw [List.length_append, List.length_append, digsTo_len]
    simp; omega
  have hsl2 : st.length ≤ 1000 := by
    rw [hst]; unfold stL
    rw [List.length_append, List.length_append, digsTo_len]
    have := entTo_len' _ C.ok
    simp; omega
  have htk : st.take s.n = p0.digsTo s.n := by
    rw [hst]; unfold stL
    rw [List.append_assoc, List.take_append_of_le_length (by rw [digsTo_len]; exact Nat.le_refl _), List.take_of_length_le (by rw [digsTo_len]; exact Nat.le_refl _)]
  have HTK := hid htk
  have HCR := hid (And.intro hcr hop)
  have HSS : Hid (s.st = st) := by show s.st = st; rw [hst]; exact hsst
  obtain ⟨lo, hlog⟩ : ∃ lo, lo = (s.x r).log := ⟨_, rfl⟩
  rw [← hlog] at HLG hlo
  obtain ⟨yl, hyl⟩ : ∃ yl : ByteArray, yl = ⟨lo.toArray⟩ := ⟨_, rfl⟩
  obtain ⟨ye, hye⟩ : ∃ ye : ByteArray, ye = ⟨le.toArray⟩ := ⟨_, rfl⟩
  obtain ⟨ys, hys⟩ : ∃ ys : ByteArray, ys = ⟨st.toArray⟩ := ⟨_, rfl⟩
  rw [← hyl] at HLG
  rw [← hye] at HOP
  rw [← hys] at HST
  have hysz : ys.size = st.length := by rw [hys, bs_size]
  have hyx : ys.extract 0 s.n = ⟨(st.take s.n).toArray⟩ := by rw [hys, bs_extract]; simp
  have HYX := hid hyx
  have hys1 : (s.n : Int) < (ys.size : Int) := by omega
  have hys2 : ys.size ≤ 1000 := by omega
  have HYS := hid hys
  obtain ⟨yg, hyg⟩ : ∃ yg : ByteArray, yg = ⟨s.lg.toArray⟩ := ⟨_, rfl⟩
  have hygs : yg.size = s.lg.length := by rw [hyg, bs_size]
  have hyne : (yl.toList == yg.toList) = false := by
    rw [beq_eq_false_iff_ne, hyl, hyg, bs_toList, bs_toList, hlog]; exact hne
  have hyls : yl.size = lo.length := by rw [hyl, bs_size]
  have HBG := hid (fun (wx : World) => begins_any lo s.lg wx (by omega) (by omega))
  rw [← hyl, ← hyg, hlog, hb] at HBG
  have HYG := hid hyg
  have hygl : yg.size ≤ 100000 := by omega
  have hyll : yl.size ≤ 9000 := by omega
  have hpre : yg.size ≤ yl.size := by
    have e : (s.x r).log.take s.lg.length = s.lg := by simpa using hb
    have := congrArg List.length e
    rw [List.length_take] at this
    rw [hygs, hyls, hlog]; omega
  obtain ⟨cc, hcc⟩ : ∃ cc, cc = s.cut r k := ⟨_, rfl⟩
  have hcb := pickN_bd k ((yl.size : Int) - (yg.size : Int) + 1) (by omega)
  have hcut : pickN k ((yl.size : Int) - (yg.size : Int) + 1) = (cc : Int) := by
    have := hcc
    unfold CS.cut at this
    rw [if_pos ⟨hl, hne⟩, if_pos hb] at this
    have e : (((s.x r).log.length - s.lg.length : Nat) : Int) + 1 = (yl.size : Int) - (yg.size : Int) + 1 := by rw [← hlog, ← hyls, ← hygs]; omega
    rw [e] at this
    omega
  have HPK := hid (fun wx => pick_any k ((yl.size : Int) - (yg.size : Int) + 1) wx hk1 hk2 (by omega) (by omega))
  rw [hcut] at HPK
  have hc0 : 0 < cc := by rw [hcc]; omega
  have hc1 : cc ≤ yl.size := by omega
  have hcgt : decide ((0 : Int) < (cc : Int)) = true := by simp; omega
  have hexy : yl.extract 0 (yl.size - cc) = ye := by
    rw [hye, hyl, bs_extract, bs_size, hle]
    have : s.left r k = lo.take (lo.length - cc) := by unfold CS.left; rw [if_neg h0, if_pos hb, ← hlog, ← hcc]
    rw [this]; simp
  have hsub : ((yl.size : Int) - (cc : Int)).toNat = yl.size - cc := by omega
  have hsub2 : (0 : Int) ≤ (yl.size : Int) - (cc : Int) := by omega
  clear hcut hcb hcc
  have hcl0 : decide ((0 : Int) ≤ s.client) = false := by simp; omega
  have u2 : w.cell? ⟨m.cb, 2, none⟩ = some (.slice (some ⟨m.xb, 0, none⟩) s.n m.cx) := by rw [h.cell]; rfl
  have ux := h.x0 hr
  have HH := hid h
  have HE := hid (And.intro he1 (And.intro he2 he3))
  obtain ⟨j, hj1, _, _, _⟩ := h.old (by rw [hl]; exact Int.natCast_nonneg _)
  have HJ := hid hj1
  obtain ⟨ea, ec, hev, _⟩ := ownsRow_form h.ev.o
  obtain ⟨wa, wc, hwv, _⟩ := ownsRow_form h.wi.o
  obtain ⟨aa, ac, hav, _⟩ := ownsRow_form h.ak.o
  have HV := hid (And.intro hev (And.intro hwv hav))
  have hec : s.nevs ≤ ec := by have := own_cap h.ev.o hev; omega
  have hwc : s.nwire ≤ wc := by have := own_cap h.wi.o hwv; omega
  have hac : s.nacks ≤ ac := by have := own_cap h.ak.o hav; omega
  clear h hF hcr hop hlog hst hsl hsl2 htk hyl hys hysz hyx C hlo hp h0 hya hsst hle hlel hye hyg hygs hyls hne hb hev hwv hav hj1 he1 he2 he3
  go_enter Tryz.func61, Tryz.ntmps61
  go_wp2_with fail
  refine HLG.out.mono ?_
  rintro e w0 ⟨rfl, hw0⟩
  subst w0
  go_wp2_with fail
  refine HS0.out.mono ?_
  rintro e w1 ⟨rfl, b1⟩
  have c1 := HH.out.blw b1
  have v11 : w1.cell? ⟨m.cb, 11, none⟩ = some (.int .i64 s.last) := by rw [c1.cell]; rfl
  have v12 : w1.cell? ⟨m.cb, 12, none⟩ = some (.string yg) := by rw [c1.cell, HYG.out]; rfl
  have v13 : w1.cell? ⟨m.cb, 13, none⟩ = some (.string ys) := by rw [c1.cell, HYS.out, ← HSS.out]; rfl
  rw [hl] at v11
  have v3 : w1.cell? ⟨m.cb, 3, none⟩ = some (.slice (some ⟨m.kb, 0, none⟩) s.n m.ck) := by rw [c1.cell]; rfl
  have v14 : w1.cell? ⟨m.cb, 14, none⟩ = some (.slice (some ⟨j, 0, none⟩) s.n s.n) := by rw [c1.cell, ← HJ.out]; rfl
  have vk := c1.k0 hr
  have vkf : w1.frozen? ⟨m.kb, r, none⟩ = false := blk_frozen c1.ks.kn r
  obtain ⟨j', hj', hjb, hjo, hjn⟩ := c1.old (by rw [hl]; exact Int.natCast_nonneg _)
  have hjj : j' = j := by rw [HJ.out] at hj'; injection hj' with a _ _; injection a with a; injection a with a; exact a.symm
  subst hjj
  have qa := c1.b.setK hr hjb hjo hjn
  obtain ⟨WA, hWA⟩ : ∃ WA, WA = (w1.setCell ⟨m.kb, r, none⟩ (.slice (some ⟨j', 0, none⟩) s.n s.n)).drew := ⟨_, rfl⟩
  have qA := qa.blw (Blw.dr (Blw.rfl _))
  rw [← hWA] at qA
  have qb := (qA.set 4 (.slice ea s.nevs ec)).blw (Blw.dr (Blw.rfl _))
  obtain ⟨WB, hWB⟩ : ∃ WB, WB = (WA.setCell ⟨m.cb, 4, none⟩ (.slice ea s.nevs ec)).drew := ⟨_, rfl⟩
  rw [← hWB] at qb
  have qB := qb.cutE HE.out.1 HV.out.1
  have qc := (qB.set 5 (.slice wa s.nwire wc)).blw (Blw.dr (Blw.rfl _))
  obtain ⟨WC, hWC⟩ : ∃ WC, WC = (WB.setCell ⟨m.cb, 5, none⟩ (.slice wa s.nwire wc)).drew := ⟨_, rfl⟩
  rw [← hWC] at qc
  have qC := qc.cutW HE.out.2.1 HV.out.2.1
  have qd := (qC.set 6 (.slice aa s.nacks ac)).blw (Blw.dr (Blw.rfl _))
  obtain ⟨WD, hWD⟩ : ∃ WD, WD = (WC.setCell ⟨m.cb, 6, none⟩ (.slice aa s.nacks ac)).drew := ⟨_, rfl⟩
  rw [← hWD] at qd
  have qD := qd.cutA HE.out.2.2 HV.out.2.2
  have a4 : WA.cell? ⟨m.cb, 4, none⟩ = some (.slice ea s.evs.length ec) := by rw [qA.cell, ← HV.out.1]; rfl
  have a15 : WA.cell? ⟨m.cb, 15, none⟩ = some (.int .i64 s.nevs) := by rw [qA.cell]; rfl
  have af := qA.fz
  have b5 : WB.cell? ⟨m.cb, 5, none⟩ = some (.slice wa s.wire.length wc) := by rw [qB.cell, ← HV.out.2.1]; rfl
  have b16 : WB.cell? ⟨m.cb, 16, none⟩ = some (.int .i64 s.nwire) := by rw [qB.cell]; rfl
  have bf := qB.fz
  have c6 : WC.cell? ⟨m.cb, 6, none⟩ = some (.slice aa s.acks.length ac) := by rw [qC.cell, ← HV.out.2.2]; rfl
  have c17 : WC.cell? ⟨m.cb, 17, none⟩ = some (.int .i64 s.nacks) := by rw [qC.cell]; rfl
  have cf := qC.fz
  have d18 : WD.cell? ⟨m.cb, 18, none⟩ = some (.int .i64 s.client) := by rw [qD.cell]; rfl
  have hr0 : (0 : Int) ≤ (r : Int) := Int.natCast_nonneg _
  have hr1 : (r : Int) < (s.n : Int) := by omega
  have he0 : (0 : Int) ≤ (s.nevs : Int) := Int.natCast_nonneg _
  have he1 : (s.nevs : Int) ≤ (ec : Int) := by omega
  have hw0 : (0 : Int) ≤ (s.nwire : Int) := Int.natCast_nonneg _
  have hw1 : (s.nwire : Int) ≤ (wc : Int) := by omega
  have ha0 : (0 : Int) ≤ (s.nacks : Int) := Int.natCast_nonneg _
  have ha1 : (s.nacks : Int) ≤ (ac : Int) := by omega
  have KA : Kp m.own w1 WD := by
    rw [hWD, hWC, hWB, hWA]
    exact (((((Bx.rfl m.kb w1).scs r [_]).kp HH.out.ks.ok).tr ((Blw.dr (Blw.rfl _)).kp _)).tr ((((Bx.rfl m.cb _).scs 4 [_]).kp HH.out.oc).tr ((Blw.dr (Blw.rfl _)).kp _))).tr (((((Bx.rfl m.cb _).scs 5 [_]).kp HH.out.oc).tr ((Blw.dr (Blw.rfl _)).kp _)).tr ((((Bx.rfl m.cb _).scs 6 [_]).kp HH.out.oc).tr ((Blw.dr (Blw.rfl _)).kp _)))
  have e0 : WD.cell? ⟨m.cb, 0, none⟩ = some (.int .i64 s.n) := by rw [qD.cell]; rfl
  have HOP1 := hid (HOP.out WD qD.tab)
  have C1 := hid (And.intro c1 b1)
  have QZ := hid (And.intro qD KA)
  have HWS := hid (And.intro hWA (And.intro hWB (And.intro hWC hWD)))
  clear c1 b1 u2 ux qa qA qb qB qc qC qd qD hWA hWB hWC hWD KA hj' hjb hjo hjn
  go_wp2_with fail
  refine (HBG.out _).mono ?_
  rintro e w0 ⟨rfl, hw0⟩
  rw [hw0]; clear hw0 w0
  go_wp2_with fail
  refine (HPK.out _).mono ?_
  rintro e w0 ⟨rfl, hw0⟩
  rw [hw0]; clear hw0 w0
  go_wp2
  go_big_region
  rw [← HWS.out.1]
  go_wp2
  go_big_region
  rw [← HWS.out.2.1]
  go_wp2
  go_big_region
  rw [← HWS.out.2.2.1]
  go_wp2
  go_big_region
  rw [← HWS.out.2.2.2]
  go_wp2_with fail
  refine HOP1.out.mono ?_
  rintro e w2 ⟨b2, hor⟩
  obtain ⟨he, hj⟩ : e = .returned (.tuple #[.pointer (some ⟨WD.heap.size, 0, none⟩), .int .i64 0]) ∧ w2.heap[WD.heap.size]? = some (.cells (repArr r s.n p0 x0.bare) 69) := by
    rcases hor with ⟨_, h1, h2⟩ | ⟨h1, _⟩
    · exact ⟨h1, h2⟩
    · cases h1
  clear hor
  subst he
  have q2 := QZ.out.1.blw b2
  have x11 := q2.set 11 (.int .i64 (-1))
  have x18 := x11.set 18 (.int .i64 (-1))
  obtain ⟨W3, hW3⟩ : ∃ W3, W3 = (w2.setCell ⟨m.cb, 11, none⟩ (.int .i64 (-1))).setCell ⟨m.cb, 18, none⟩ (.int .i64 (-1)) := ⟨_, rfl⟩
  have B23 : Bx m.cb w2 W3 := by rw [hW3]; exact ((Bx.rfl m.cb w2).scs 11 [_]).scs 18 [_]
  change ClB ((w2.setCell ⟨m.cb, 11, none⟩ (.int .i64 (-1))).setCell ⟨m.cb, 18, none⟩ (.int .i64 (-1))) _ _ _ at x18
  rw [← hW3] at x18
  have hj3 := B23.keep hj (ne_ty hj q2.row (by decide))
  have hlim : ∀ z, m.own z → z < WD.heap.size := fun z hz => Nat.lt_of_lt_of_le (C1.out.1.lim z hz) QZ.out.2.size
  have x4 := x18.setX hr hj3 hlim (Nat.le_refl _)
  obtain ⟨W4, hW4⟩ : ∃ W4, W4 = W3.setCell ⟨m.xb, r, none⟩ (.pointer (some ⟨WD.heap.size, 0, none⟩)) := ⟨_, rfl⟩
  change ClB (W3.setCell ⟨m.xb, r, none⟩ (.pointer (some ⟨WD.heap.size, 0, none⟩))) _ _ _ at x4
  rw [← hW4] at x4
  have hj4 : W4.heap[WD.heap.size]? = some (.cells (repArr r s.n p0 x0.bare) 69) := by
    have := x4.xs.rep r hr
    simp only [upd_at] at this
    exact this
  have HST4 := hid (HST.out W4 WD.heap.size hj4)
  have y11 : w2.cell? ⟨m.cb, 11, none⟩ = some (.int .i64 s.last) := by rw [q2.cell]; rfl
  have y18 : w2.cell? ⟨m.cb, 18, none⟩ = some (.int .i64 s.client) := by rw [q2.cell]; rfl
  have y2 : w2.cell? ⟨m.cb, 2, none⟩ = some (.slice (some ⟨m.xb, 0, none⟩) s.n m.cx) := by rw [q2.cell]; rfl
  have yf := q2.fz
  have yx : w2.cell? ⟨m.xb, r, none⟩ = some (.pointer (some ⟨m.b r, 0, none⟩)) := by rw [blk_cell q2.xs.xs]; exact q2.xs.xr r hr
  have yxf : w2.frozen? ⟨m.xb, r, none⟩ = false := blk_frozen q2.xs.xs r
  have nxc : m.xb ≠ m.cb := ne_ty q2.xs.xs q2.row (by decide)
  have KP4 : Kp m.own w W4 := by
    rw [hW4]
    exact ((C1.out.2.kp _).tr (QZ.out.2.tr ((b2.kp _).tr (B23.kp HH.out.oc)))).tr (((Bx.rfl m.xb W3).scs r [_]).kp HH.out.xs.ox)
  have X4 := hid (And.intro x4 KP4)
  have HW4 : Hid (W4 = ((w2.setCell ⟨m.cb, 11, none⟩ (.int .i64 (-1))).setCell ⟨m.cb, 18, none⟩ (.int .i64 (-1))).setCell ⟨m.xb, r, none⟩ (.pointer (some ⟨WD.heap.size, 0, none⟩))) := by show W4 = _; rw [hW4, hW3]
  clear q2 x11 x18 hW3 hW4 B23 hj hj3 hlim x4 hj4 KP4 b2 v11 v12 v13 v3 v14 vk vkf a4 a15 af b5 b16 bf c6 c17 cf d18 e0
  go_wp2_with fail
  rw [← HW4.out]
  refine HST4.out.mono ?_
  rintro e w5 ⟨rfl, b5⟩
  have x5 := X4.out.1.blw b5
  have z0 : w5.cell? ⟨m.cb, 0, none⟩ = some (.int .i64 s.n) := by rw [x5.cell]; rfl
  have z8 : w5.cell? ⟨m.cb, 8, none⟩ = some (.slice (some ⟨m.ob, 0, none⟩) s.n m.co) := by rw [x5.cell]; rfl
  have zo : w5.cell? ⟨m.ob, r, none⟩ = some (.string ⟨(s.owns r).toArray⟩) := by rw [blk_cell x5.ow.tk]; exact x5.ow.tr r hr
  have zof : w5.frozen? ⟨m.ob, r, none⟩ = false := blk_frozen x5.ow.tk r
  have x6 := x5.setO hr (st.take s.n)
  have X5 := hid (And.intro x6 (X4.out.2.tr (b5.kp _)))
  clear x5 x6 b5 y11 y18 y2 yf yx yxf
  have FIN : Hid (F ((w5.setCell ⟨m.ob, r, none⟩ (.string (ys.extract 0 s.n))).drew)) := by
    show F _
    rw [HF.out, HYX.out]
    have x7 := (X5.out.1.blw (Blw.dr (Blw.rfl _))).flags s.said s.err (-1) s.lg s.st s.old s.nevs s.nwire s.nacks (-1) s.tok
    have ko : Kp m.own w (w5.setCell ⟨m.ob, r, none⟩ (.string ⟨(st.take s.n).toArray⟩)).drew := X5.out.2.tr ((((Bx.rfl m.ob w5).scs r [_]).kp HH.out.oo).tr ((Blw.dr (Blw.rfl _)).kp _))
    have key : s.crash r k = { s with last := -1, client := -1, K := upd s.K r s.old, evs := s.evs.take s.nevs, wire := s.wire.take s.nwire, acks := s.acks.take s.nacks, toks := s.toks, p := upd s.p r p0, x := upd s.x r x0.bare, owns := upd s.owns r (st.take s.n) } := by
      rw [HCR.out.1]; unfold CS.again CS.undo
      rw [if_neg (by omega)]
      show _ = _
      simp only [HCR.out.2, HTK.out]
    rw [key]
    skip
    refine ⟨_, ClB.at x7 (fun hl => absurd hl (by show ¬ (0 : Int) ≤ -1; omega)), ko, ?_, rfl, fun z hz => Or.inl hz⟩
    rintro z (c | c)
    · exact .inl c
    · right
      have := C1.out.2.sz
      have := QZ.out.2.size
      omega
  clear HF
  go_wp2
  go_big_region
  go_wp2
  go_ret
  exact ⟨rfl, FIN.out⟩

end Go.Proofs.YtalaldfgjgpacaaGreatDoor
