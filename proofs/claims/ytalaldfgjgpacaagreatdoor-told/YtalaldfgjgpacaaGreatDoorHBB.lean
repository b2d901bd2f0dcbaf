import Derived.Test.YtalaldfgjgpacaaGreatDoorHBA
import Derived.Deep.RegionHeld3
import Derived.BigRegion
namespace Go.Proofs.YtalaldfgjgpacaaGreatDoor
set_option linter.unusedVariables false
set_option linter.unusedSimpArgs false
open Go.RowKit
attribute [local go_sem ↓] Go.wp_at_zero Go.wp_at_succ

set_option maxRecDepth 100000 in
set_option maxHeartbeats 8000000 in
theorem crash_a1 {w : World} {m : CM} {s : CS} {r : Nat} {k : Int} {p0 : Pc} {x0 : Ext} (h : ClAt w m s) (hr : r < s.n) (hp : (s.p r).ok) (hll : s.lg.length ≤ 100000) (hlo : (s.x r).log.length ≤ 9000) (hl : s.last ≠ r) (C : CrashOk s r k p0 x0) (h0 : s.cut r k = 0) :
    Calls Tryz.prog 61 #[.pointer (some ⟨m.cb, 0, none⟩), .int .i64 r, .int .i64 k] w fun e w' => e = .returned (.bool true) ∧ ∃ m', Moved w w' m m' (s.crash r k) := by
  have hn3 := h.n3
  have hn1 := h.n1
  obtain ⟨F, hF⟩ : ∃ F : World → Prop, F = fun w' => ∃ m', Moved w w' m m' (s.crash r k) := ⟨_, rfl⟩
  rw [show (fun e w' => e = Ending.returned (.bool true) ∧ ∃ m', Moved w w' m m' (s.crash r k)) = fun e w' => e = Ending.returned (.bool true) ∧ F w' by rw [hF]]
  have HF := hid hF
  have HLG := hid (log_any (m.b r) r s.n (s.p r) (s.x r) w (h.xs.rep r hr))
  have HS0 := hid (state_any (xt := s.x r) (m.b r) r s.n (s.p r) w hn3 hp (h.xs.rep r hr))
  rw [show (s.p r).digsTo s.n ++ [59] ++ (s.p r).entTo 12 = stL (s.p r) s.n from rfl] at HS0
  have hpe : p0 = s.p r := (C.no h0).1
  have hxe : x0 = s.x r := (C.no h0).2
  have hleft : s.left r k = (s.x r).log := by unfold CS.left; rw [if_pos h0]
  have hcr : s.crash r k = s.again r (s.x r).log := by unfold CS.crash; rw [if_pos h0, hleft]
  have hop : opened s.n (s.x r).log = ⟨true, (s.x r).log.length, s.p r, (s.x r).bare⟩ := by
    have := C.op
    rw [hleft, hpe, hxe] at this
    exact this
  obtain ⟨lo, hlog⟩ : ∃ lo, lo = (s.x r).log := ⟨_, rfl⟩
  rw [← hlog] at HLG hop hlo hcr
  obtain ⟨st, hst⟩ : ∃ st, st = stL (s.p r) s.n := ⟨_, rfl⟩
  rw [← hst] at HS0
  have HOP := hid (fun (wx : World) (ht : Tab Tryz.prog wx) => open_yes r s.n lo (opened s.n lo) wx rfl hlo hn3 hr ht)
  rw [hop] at HOP
  have HST := hid (fun (wx : World) (b : Nat) (hb : wx.heap[b]? = some (.cells (repArr r s.n (s.p r) (s.x r).bare) 69)) => state_any (xt := (s.x r).bare) b r s.n (s.p r) wx hn3 hp hb)
  rw [show (s.p r).digsTo s.n ++ [59] ++ (s.p r).entTo 12 = stL (s.p r) s.n from rfl, ← hst] at HST
  have hsl : (s.n : Int) < (st.length : Int) := by
    rw [hst]; unfold stL
    rw [List.length_append, List.length_append, digsTo_len]
    simp; omega
  have hsl2 : st.length ≤ 1000 := by
    rw [hst]; unfold stL
    rw [List.length_append, List.length_append, digsTo_len]
    have := entTo_len' _ hp
    simp; omega
  have htk : st.take s.n = (s.p r).digsTo s.n := by
    rw [hst]; unfold stL
    rw [List.append_assoc, List.take_append_of_le_length (by rw [digsTo_len]; exact Nat.le_refl _), List.take_of_length_le (by rw [digsTo_len]; exact Nat.le_refl _)]
  have HTK := hid htk
  have HCR := hid (And.intro hcr hop)
  obtain ⟨yl, hyl⟩ : ∃ yl : ByteArray, yl = ⟨lo.toArray⟩ := ⟨_, rfl⟩
  obtain ⟨ys, hys⟩ : ∃ ys : ByteArray, ys = ⟨st.toArray⟩ := ⟨_, rfl⟩
  rw [← hyl] at HLG HOP
  rw [← hys] at HS0 HST
  have hysz : ys.size = st.length := by rw [hys, bs_size]
  have hyx : ys.extract 0 s.n = ⟨(st.take s.n).toArray⟩ := by rw [hys, bs_extract]; simp
  have HYX := hid hyx
  have hys1 : (s.n : Int) < (ys.size : Int) := by omega
  have hys2 : ys.size ≤ 1000 := by omega
  have HYL := hid (And.intro hyl (And.intro hys hlog))
  have u2 : w.cell? ⟨m.cb, 2, none⟩ = some (.slice (some ⟨m.xb, 0, none⟩) s.n m.cx) := by rw [h.cell]; rfl
  have ux := h.x0 hr
  have HH := hid h
  have hlb : (s.last == (r : Int)) = false := by rw [beq_eq_false_iff_ne]; exact hl
  clear h hF hpe hxe hleft hcr hop hlog hst hsl hsl2 htk hyl hys hysz hyx C hlo hp h0
  go_enter Tryz.func61, Tryz.ntmps61
  go_wp2_with fail
  refine HLG.out.mono ?_
  rintro e w0 ⟨rfl, hw0⟩
  subst w0
  go_wp2_with fail
  refine HS0.out.mono ?_
  rintro e w1 ⟨rfl, b1⟩
  have c1 := HH.out.blw b1
  have v0 : w1.cell? ⟨m.cb, 0, none⟩ = some (.int .i64 s.n) := by rw [c1.cell]; rfl
  have v11 : w1.cell? ⟨m.cb, 11, none⟩ = some (.int .i64 s.last) := by rw [c1.cell]; rfl
  have HOP1 := hid (HOP.out w1 c1.tab)
  have C1 := hid (And.intro c1 b1)
  clear c1 b1 u2 ux
  go_wp2_with fail
  refine HOP1.out.mono ?_
  rintro e w2 ⟨b2, hor⟩
  obtain ⟨he, hj⟩ : e = .returned (.tuple #[.pointer (some ⟨w1.heap.size, 0, none⟩), .int .i64 0]) ∧ w2.heap[w1.heap.size]? = some (.cells (repArr r s.n (s.p r) (s.x r).bare) 69) := by
    rcases hor with ⟨_, h1, h2⟩ | ⟨h1, _⟩
    · exact ⟨h1, h2⟩
    · cases h1
  clear hor
  subst he
  have q2 := C1.out.1.b.blw b2
  have x11 := q2.set 11 (.int .i64 (-1))
  have x18 := x11.set 18 (.int .i64 (-1))
  obtain ⟨W3, hW3⟩ : ∃ W3, W3 = (w2.setCell ⟨m.cb, 11, none⟩ (.int .i64 (-1))).setCell ⟨m.cb, 18, none⟩ (.int .i64 (-1)) := ⟨_, rfl⟩
  have B23 : Bx m.cb w2 W3 := by rw [hW3]; exact ((Bx.rfl m.cb w2).scs 11 [_]).scs 18 [_]
  rw [← hW3] at x18
  have hj3 := B23.keep hj (ne_ty hj q2.row (by decide))
  have hlim : ∀ z, m.own z → z < w1.heap.size := C1.out.1.lim
  have x4 := x18.setX hr hj3 hlim (Nat.le_refl _)
  obtain ⟨W4, hW4⟩ : ∃ W4, W4 = W3.setCell ⟨m.xb, r, none⟩ (.pointer (some ⟨w1.heap.size, 0, none⟩)) := ⟨_, rfl⟩
  rw [← hW4] at x4
  have hj4 : W4.heap[w1.heap.size]? = some (.cells (repArr r s.n (s.p r) (s.x r).bare) 69) := by
    have := x4.xs.rep r hr
    simp only [upd_at] at this
    exact this
  have HST4 := hid (HST.out W4 w1.heap.size hj4)
  have y11 : w2.cell? ⟨m.cb, 11, none⟩ = some (.int .i64 s.last) := by rw [q2.cell]; rfl
  have y18 : w2.cell? ⟨m.cb, 18, none⟩ = some (.int .i64 s.client) := by rw [q2.cell]; rfl
  have y2 : w2.cell? ⟨m.cb, 2, none⟩ = some (.slice (some ⟨m.xb, 0, none⟩) s.n m.cx) := by rw [q2.cell]; rfl
  have yf := q2.fz
  have yx : w2.cell? ⟨m.xb, r, none⟩ = some (.pointer (some ⟨m.b r, 0, none⟩)) := by rw [blk_cell q2.xs.xs]; exact q2.xs.xr r hr
  have yxf : w2.frozen? ⟨m.xb, r, none⟩ = false := blk_frozen q2.xs.xs r
  have nxc : m.xb ≠ m.cb := ne_ty q2.xs.xs q2.row (by decide)
  have KP4 : Kp m.own w W4 := by
    rw [hW4]
    exact ((C1.out.2.kp _).tr ((b2.kp _).tr (B23.kp HH.out.oc))).tr (((Bx.rfl m.xb W3).scs r [_]).kp q2.xs.ox)
  have X4 := hid (And.intro x4 KP4)
  have HW4 : Hid (W4 = ((w2.setCell ⟨m.cb, 11, none⟩ (.int .i64 (-1))).setCell ⟨m.cb, 18, none⟩ (.int .i64 (-1))).setCell ⟨m.xb, r, none⟩ (.pointer (some ⟨w1.heap.size, 0, none⟩))) := by show W4 = _; rw [hW4, hW3]
  clear q2 x11 x18 hW3 hW4 B23 hj hj3 hlim x4 hj4 KP4 b2 v0 v11
  go_wp2_with fail
  rw [← HW4.out]
  refine HST4.out.mono ?_
  rintro e w5 ⟨rfl, b5⟩
  have x5 := X4.out.1.blw b5
  have z0 : w5.cell? ⟨m.cb, 0, none⟩ = some (.int .i64 s.n) := by rw [x5.cell]; rfl
  have z8 : w5.cell? ⟨m.cb, 8, none⟩ = some (.slice (some ⟨m.ob, 0, none⟩) s.n m.co) := by rw [x5.cell]; rfl
  have zo : w5.cell? ⟨m.ob, r, none⟩ = some (.string ⟨(s.owns r).toArray⟩) := by rw [blk_cell x5.ow.tk]; exact x5.ow.tr r hr
  have zof : w5.frozen? ⟨m.ob, r, none⟩ = false := blk_frozen x5.ow.tk r
  have hr0 : (0 : Int) ≤ (r : Int) := Int.natCast_nonneg _
  have hr1 : (r : Int) < (s.n : Int) := by omega
  have x6 := x5.setO hr (st.take s.n)
  have X5 := hid (And.intro x6 (X4.out.2.tr (b5.kp _)))
  clear x5 x6 b5 y11 y18 y2 yf yx yxf
  have FIN : Hid (F ((w5.setCell ⟨m.ob, r, none⟩ (.string (ys.extract 0 s.n))).drew)) := by
    show F _
    rw [HF.out, HYX.out]
    have x7 := (X5.out.1.blw (Blw.dr (Blw.rfl _))).flags s.said s.err (-1) s.lg s.st s.old s.nevs s.nwire s.nacks (-1) s.tok
    have ko : Kp m.own w (w5.setCell ⟨m.ob, r, none⟩ (.string ⟨(st.take s.n).toArray⟩)).drew := X5.out.2.tr ((((Bx.rfl m.ob w5).scs r [_]).kp HH.out.oo).tr ((Blw.dr (Blw.rfl _)).kp _))
    have key : s.crash r k = { s with last := -1, client := -1, p := upd s.p r (s.p r), x := upd s.x r (s.x r).bare, owns := upd s.owns r (st.take s.n) } := by
      rw [HCR.out.1]; unfold CS.again
      rw [HCR.out.2, HTK.out]
    rw [key]
    refine ⟨_, ClB.at x7 (fun hl => absurd hl (by show ¬ (0 : Int) ≤ -1; omega)), ko, ?_, rfl, fun z hz => Or.inl hz⟩
    rintro z (c | c)
    · exact .inl c
    · right
      have := C1.out.2.sz; omega
  clear HF
  go_wp2
  go_big_region
  go_wp2
  go_ret
  exact ⟨rfl, FIN.out⟩

end Go.Proofs.YtalaldfgjgpacaaGreatDoor

namespace Go.Proofs.YtalaldfgjgpacaaGreatDoor
set_option linter.unusedVariables false
set_option linter.unusedSimpArgs false
open Go.RowKit
attribute [local go_sem ↓] Go.wp_at_zero Go.wp_at_succ

set_option maxRecDepth 100000 in
set_option maxHeartbeats 8000000 in
theorem crash_a2 {w : World} {m : CM} {s : CS} {r : Nat} {k : Int} {p0 : Pc} {x0 : Ext} (h : ClAt w m s) (hr : r < s.n) (hp : (s.p r).ok) (hll : s.lg.length ≤ 100000) (hlo : (s.x r).log.length ≤ 9000) (hl : s.last = r) (hlg : (s.x r).log = s.lg) (C : CrashOk s r k p0 x0) (h0 : s.cut r k = 0) :
    Calls Tryz.prog 61 #[.pointer (some ⟨m.cb, 0, none⟩), .int .i64 r, .int .i64 k] w fun e w' => e = .returned (.bool true) ∧ ∃ m', Moved w w' m m' (s.crash r k) := by
  have hn3 := h.n3
  have hn1 := h.n1
  obtain ⟨F, hF⟩ : ∃ F : World → Prop, F = fun w' => ∃ m', Moved w w' m m' (s.crash r k) := ⟨_, rfl⟩
  rw [show (fun e w' => e = Ending.returned (.bool true) ∧ ∃ m', Moved w w' m m' (s.crash r k)) = fun e w' => e = Ending.returned (.bool true) ∧ F w' by rw [hF]]
  have HF := hid hF
  have HLG := hid (log_any (m.b r) r s.n (s.p r) (s.x r) w (h.xs.rep r hr))
  have HS0 := hid (state_any (xt := s.x r) (m.b r) r s.n (s.p r) w hn3 hp (h.xs.rep r hr))
  rw [show (s.p r).digsTo s.n ++ [59] ++ (s.p r).entTo 12 = stL (s.p r) s.n from rfl] at HS0
  have hpe : p0 = s.p r := (C.no h0).1
  have hxe : x0 = s.x r := (C.no h0).2
  have hleft : s.left r k = (s.x r).log := by unfold CS.left; rw [if_pos h0]
  have hcr : s.crash r k = s.again r (s.x r).log := by unfold CS.crash; rw [if_pos h0, hleft]
  have hop : opened s.n (s.x r).log = ⟨true, (s.x r).log.length, s.p r, (s.x r).bare⟩ := by
    have := C.op
    rw [hleft, hpe, hxe] at this
    exact this
  obtain ⟨lo, hlog⟩ : ∃ lo, lo = (s.x r).log := ⟨_, rfl⟩
  rw [← hlog] at HLG hop hlo hcr
  obtain ⟨st, hst⟩ : ∃ st, st = stL (s.p r) s.n := ⟨_, rfl⟩
  rw [← hst] at HS0
  have HOP := hid (fun (wx : World) (ht : Tab Tryz.prog wx) => open_yes r s.n lo (opened s.n lo) wx rfl hlo hn3 hr ht)
  rw [hop] at HOP
  have HST := hid (fun (wx : World) (b : Nat) (hb : wx.heap[b]? = some (.cells (repArr r s.n (s.p r) (s.x r).bare) 69)) => state_any (xt := (s.x r).bare) b r s.n (s.p r) wx hn3 hp hb)
  rw [show (s.p r).digsTo s.n ++ [59] ++ (s.p r).entTo 12 = stL (s.p r) s.n from rfl, ← hst] at HST
  have hsl : (s.n : Int) < (st.length : Int) := by
    rw [hst]; unfold stL
    rw [List.length_append, List.length_append, digsTo_len]
    simp; omega
  have hsl2 : st.length ≤ 1000 := by
    rw [hst]; unfold stL
    rw [List.length_append, List.length_append, digsTo_len]
    have := entTo_len' _ hp
    simp; omega
  have htk : st.take s.n = (s.p r).digsTo s.n := by
    rw [hst]; unfold stL
    rw [List.append_assoc, List.take_append_of_le_length (by rw [digsTo_len]; exact Nat.le_refl _), List.take_of_length_le (by rw [digsTo_len]; exact Nat.le_refl _)]
  have HTK := hid htk
  have HCR := hid (And.intro hcr hop)
  obtain ⟨yl, hyl⟩ : ∃ yl : ByteArray, yl = ⟨lo.toArray⟩ := ⟨_, rfl⟩
  obtain ⟨ys, hys⟩ : ∃ ys : ByteArray, ys = ⟨st.toArray⟩ := ⟨_, rfl⟩
  rw [← hyl] at HLG HOP
  rw [← hys] at HS0 HST
  have hysz : ys.size = st.length := by rw [hys, bs_size]
  have hyx : ys.extract 0 s.n = ⟨(st.take s.n).toArray⟩ := by rw [hys, bs_extract]; simp
  have HYX := hid hyx
  have hys1 : (s.n : Int) < (ys.size : Int) := by omega
  have hys2 : ys.size ≤ 1000 := by omega
  have HYL := hid (And.intro hyl (And.intro hys hlog))
  have u2 : w.cell? ⟨m.cb, 2, none⟩ = some (.slice (some ⟨m.xb, 0, none⟩) s.n m.cx) := by rw [h.cell]; rfl
  have ux := h.x0 hr
  have HH := hid h
  have HLL := hid (show lo = s.lg by rw [hlog]; exact hlg)
  clear h hF hpe hxe hleft hcr hop hlog hst hsl hsl2 htk hyl hys hysz hyx C hlo hp h0
  go_enter Tryz.func61, Tryz.ntmps61
  go_wp2_with fail
  refine HLG.out.mono ?_
  rintro e w0 ⟨rfl, hw0⟩
  subst w0
  go_wp2_with fail
  refine HS0.out.mono ?_
  rintro e w1 ⟨rfl, b1⟩
  have c1 := HH.out.blw b1
  have v0 : w1.cell? ⟨m.cb, 0, none⟩ = some (.int .i64 s.n) := by rw [c1.cell]; rfl
  have v11 : w1.cell? ⟨m.cb, 11, none⟩ = some (.int .i64 s.last) := by rw [c1.cell]; rfl
  have v12 : w1.cell? ⟨m.cb, 12, none⟩ = some (.string yl) := by rw [c1.cell, HYL.out.1, HLL.out]; rfl
  rw [hl] at v11
  have HOP1 := hid (HOP.out w1 c1.tab)
  have C1 := hid (And.intro c1 b1)
  clear c1 b1 u2 ux
  go_wp2_with fail
  refine HOP1.out.mono ?_
  rintro e w2 ⟨b2, hor⟩
  obtain ⟨he, hj⟩ : e = .returned (.tuple #[.pointer (some ⟨w1.heap.size, 0, none⟩), .int .i64 0]) ∧ w2.heap[w1.heap.size]? = some (.cells (repArr r s.n (s.p r) (s.x r).bare) 69) := by
    rcases hor with ⟨_, h1, h2⟩ | ⟨h1, _⟩
    · exact ⟨h1, h2⟩
    · cases h1
  clear hor
  subst he
  have q2 := C1.out.1.b.blw b2
  have x11 := q2.set 11 (.int .i64 (-1))
  have x18 := x11.set 18 (.int .i64 (-1))
  obtain ⟨W3, hW3⟩ : ∃ W3, W3 = (w2.setCell ⟨m.cb, 11, none⟩ (.int .i64 (-1))).setCell ⟨m.cb, 18, none⟩ (.int .i64 (-1)) := ⟨_, rfl⟩
  have B23 : Bx m.cb w2 W3 := by rw [hW3]; exact ((Bx.rfl m.cb w2).scs 11 [_]).scs 18 [_]
  rw [← hW3] at x18
  have hj3 := B23.keep hj (ne_ty hj q2.row (by decide))
  have hlim : ∀ z, m.own z → z < w1.heap.size := C1.out.1.lim
  have x4 := x18.setX hr hj3 hlim (Nat.le_refl _)
  obtain ⟨W4, hW4⟩ : ∃ W4, W4 = W3.setCell ⟨m.xb, r, none⟩ (.pointer (some ⟨w1.heap.size, 0, none⟩)) := ⟨_, rfl⟩
  rw [← hW4] at x4
  have hj4 : W4.heap[w1.heap.size]? = some (.cells (repArr r s.n (s.p r) (s.x r).bare) 69) := by
    have := x4.xs.rep r hr
    simp only [upd_at] at this
    exact this
  have HST4 := hid (HST.out W4 w1.heap.size hj4)
  have y11 : w2.cell? ⟨m.cb, 11, none⟩ = some (.int .i64 s.last) := by rw [q2.cell]; rfl
  have y18 : w2.cell? ⟨m.cb, 18, none⟩ = some (.int .i64 s.client) := by rw [q2.cell]; rfl
  have y2 : w2.cell? ⟨m.cb, 2, none⟩ = some (.slice (some ⟨m.xb, 0, none⟩) s.n m.cx) := by rw [q2.cell]; rfl
  have yf := q2.fz
  have yx : w2.cell? ⟨m.xb, r, none⟩ = some (.pointer (some ⟨m.b r, 0, none⟩)) := by rw [blk_cell q2.xs.xs]; exact q2.xs.xr r hr
  have yxf : w2.frozen? ⟨m.xb, r, none⟩ = false := blk_frozen q2.xs.xs r
  have nxc : m.xb ≠ m.cb := ne_ty q2.xs.xs q2.row (by decide)
  have KP4 : Kp m.own w W4 := by
    rw [hW4]
    exact ((C1.out.2.kp _).tr ((b2.kp _).tr (B23.kp HH.out.oc))).tr (((Bx.rfl m.xb W3).scs r [_]).kp q2.xs.ox)
  have X4 := hid (And.intro x4 KP4)
  have HW4 : Hid (W4 = ((w2.setCell ⟨m.cb, 11, none⟩ (.int .i64 (-1))).setCell ⟨m.cb, 18, none⟩ (.int .i64 (-1))).setCell ⟨m.xb, r, none⟩ (.pointer (some ⟨w1.heap.size, 0, none⟩))) := by show W4 = _; rw [hW4, hW3]
  clear q2 x11 x18 hW3 hW4 B23 hj hj3 hlim x4 hj4 KP4 b2 v0 v11
  go_wp2_with fail
  rw [← HW4.out]
  refine HST4.out.mono ?_
  rintro e w5 ⟨rfl, b5⟩
  have x5 := X4.out.1.blw b5
  have z0 : w5.cell? ⟨m.cb, 0, none⟩ = some (.int .i64 s.n) := by rw [x5.cell]; rfl
  have z8 : w5.cell? ⟨m.cb, 8, none⟩ = some (.slice (some ⟨m.ob, 0, none⟩) s.n m.co) := by rw [x5.cell]; rfl
  have zo : w5.cell? ⟨m.ob, r, none⟩ = some (.string ⟨(s.owns r).toArray⟩) := by rw [blk_cell x5.ow.tk]; exact x5.ow.tr r hr
  have zof : w5.frozen? ⟨m.ob, r, none⟩ = false := blk_frozen x5.ow.tk r
  have hr0 : (0 : Int) ≤ (r : Int) := Int.natCast_nonneg _
  have hr1 : (r : Int) < (s.n : Int) := by omega
  have x6 := x5.setO hr (st.take s.n)
  have X5 := hid (And.intro x6 (X4.out.2.tr (b5.kp _)))
  clear x5 x6 b5 y11 y18 y2 yf yx yxf
  have FIN : Hid (F ((w5.setCell ⟨m.ob, r, none⟩ (.string (ys.extract 0 s.n))).drew)) := by
    show F _
    rw [HF.out, HYX.out]
    have x7 := (X5.out.1.blw (Blw.dr (Blw.rfl _))).flags s.said s.err (-1) s.lg s.st s.old s.nevs s.nwire s.nacks (-1) s.tok
    have ko : Kp m.own w (w5.setCell ⟨m.ob, r, none⟩ (.string ⟨(st.take s.n).toArray⟩)).drew := X5.out.2.tr ((((Bx.rfl m.ob w5).scs r [_]).kp HH.out.oo).tr ((Blw.dr (Blw.rfl _)).kp _))
    have key : s.crash r k = { s with last := -1, client := -1, p := upd s.p r (s.p r), x := upd s.x r (s.x r).bare, owns := upd s.owns r (st.take s.n) } := by
      rw [HCR.out.1]; unfold CS.again
      rw [HCR.out.2, HTK.out]
    rw [key]
    refine ⟨_, ClB.at x7 (fun hl => absurd hl (by show ¬ (0 : Int) ≤ -1; omega)), ko, ?_, rfl, fun z hz => Or.inl hz⟩
    rintro z (c | c)
    · exact .inl c
    · right
      have := C1.out.2.sz; omega
  clear HF
  go_wp2
  go_big_region
  go_wp2
  go_ret
  exact ⟨rfl, FIN.out⟩

end Go.Proofs.YtalaldfgjgpacaaGreatDoor

namespace Go.Proofs.YtalaldfgjgpacaaGreatDoor
set_option linter.unusedVariables false
set_option linter.unusedSimpArgs false
open Go.RowKit
attribute [local go_sem ↓] Go.wp_at_zero Go.wp_at_succ

set_option maxRecDepth 100000 in
set_option maxHeartbeats 8000000 in
theorem crash_b0 {w : World} {m : CM} {s : CS} {r : Nat} {k : Int} {p0 : Pc} {x0 : Ext} (h : ClAt w m s) (hr : r < s.n) (hp : (s.p r).ok) (hll : s.lg.length ≤ 100000) (hlo : (s.x r).log.length ≤ 9000) (hl : s.last = r) (hne : (s.x r).log ≠ s.lg) (hb : ((s.x r).log.take s.lg.length == s.lg) = true) (hk1 : -9223372036854775808 ≤ k) (hk2 : k ≤ 9223372036854775807) (C : CrashOk s r k p0 x0) (h0 : s.cut r k = 0) :
    Calls Tryz.prog 61 #[.pointer (some ⟨m.cb, 0, none⟩), .int .i64 r, .int .i64 k] w fun e w' => e = .returned (.bool true) ∧ ∃ m', Moved w w' m m' (s.crash r k) := by
  have hn3 := h.n3
  have hn1 := h.n1
  obtain ⟨F, hF⟩ : ∃ F : World → Prop, F = fun w' => ∃ m', Moved w w' m m' (s.crash r k) := ⟨_, rfl⟩
  rw [show (fun e w' => e = Ending.returned (.bool true) ∧ ∃ m', Moved w w' m m' (s.crash r k)) = fun e w' => e = Ending.returned (.bool true) ∧ F w' by rw [hF]]
  have HF := hid hF
  have HLG := hid (log_any (m.b r) r s.n (s.p r) (s.x r) w (h.xs.rep r hr))
  have HS0 := hid (state_any (xt := s.x r) (m.b r) r s.n (s.p r) w hn3 hp (h.xs.rep r hr))
  rw [show (s.p r).digsTo s.n ++ [59] ++ (s.p r).entTo 12 = stL (s.p r) s.n from rfl] at HS0
  have hpe : p0 = s.p r := (C.no h0).1
  have hxe : x0 = s.x r := (C.no h0).2
  have hleft : s.left r k = (s.x r).log := by unfold CS.left; rw [if_pos h0]
  have hcr : s.crash r k = s.again r (s.x r).log := by unfold CS.crash; rw [if_pos h0, hleft]
  have hop : opened s.n (s.x r).log = ⟨true, (s.x r).log.length, s.p r, (s.x r).bare⟩ := by
    have := C.op
    rw [hleft, hpe, hxe] at this
    exact this
  obtain ⟨lo, hlog⟩ : ∃ lo, lo = (s.x r).log := ⟨_, rfl⟩
  rw [← hlog] at HLG hop hlo hcr
  obtain ⟨st, hst⟩ : ∃ st, st = stL (s.p r) s.n := ⟨_, rfl⟩
  rw [← hst] at HS0
  have HOP := hid (fun (wx : World) (ht : Tab Tryz.prog wx) => open_yes r s.n lo (opened s.n lo) wx rfl hlo hn3 hr ht)
  rw [hop] at HOP
  have HST := hid (fun (wx : World) (b : Nat) (hb : wx.heap[b]? = some (.cells (repArr r s.n (s.p r) (s.x r).bare) 69)) => state_any (xt := (s.x r).bare) b r s.n (s.p r) wx hn3 hp hb)
  rw [show (s.p r).digsTo s.n ++ [59] ++ (s.p r).entTo 12 = stL (s.p r) s.n from rfl, ← hst] at HST
  have hsl : (s.n : Int) < (st.length : Int) := by
    rw [hst]; unfold stL
    rw [List.length_append, List.length_append, digsTo_len]
    simp; omega
  have hsl2 : st.length ≤ 1000 := by
    rw [hst]; unfold stL
    rw [List.length_append, List.length_append, digsTo_len]
    have := entTo_len' _ hp
    simp; omega
  have htk : st.take s.n = (s.p r).digsTo s.n := by
    rw [hst]; unfold stL
    rw [List.append_assoc, List.take_append_of_le_length (by rw [digsTo_len]; exact Nat.le_refl _), List.take_of_length_le (by rw [digsTo_len]; exact Nat.le_refl _)]
  have HTK := hid htk
  have HCR := hid (And.intro hcr hop)
  obtain ⟨yl, hyl⟩ : ∃ yl : ByteArray, yl = ⟨lo.toArray⟩ := ⟨_, rfl⟩
  obtain ⟨ys, hys⟩ : ∃ ys : ByteArray, ys = ⟨st.toArray⟩ := ⟨_, rfl⟩
  rw [← hyl] at HLG HOP
  rw [← hys] at HS0 HST
  have hysz : ys.size = st.length := by rw [hys, bs_size]
  have hyx : ys.extract 0 s.n = ⟨(st.take s.n).toArray⟩ := by rw [hys, bs_extract]; simp
  have HYX := hid hyx
  have hys1 : (s.n : Int) < (ys.size : Int) := by omega
  have hys2 : ys.size ≤ 1000 := by omega
  have HYL := hid (And.intro hyl (And.intro hys hlog))
  have u2 : w.cell? ⟨m.cb, 2, none⟩ = some (.slice (some ⟨m.xb, 0, none⟩) s.n m.cx) := by rw [h.cell]; rfl
  have ux := h.x0 hr
  have HH := hid h
  obtain ⟨yg, hyg⟩ : ∃ yg : ByteArray, yg = ⟨s.lg.toArray⟩ := ⟨_, rfl⟩
  have hygs : yg.size = s.lg.length := by rw [hyg, bs_size]
  have hyne : (yl.toList == yg.toList) = false := by
    rw [beq_eq_false_iff_ne, hyl, hyg, bs_toList, bs_toList, hlog]; exact hne
  have hyls : yl.size = lo.length := by rw [hyl, bs_size]
  have HBG := hid (fun (wx : World) => begins_any lo s.lg wx (by omega) (by omega))
  rw [← hyl, ← hyg, hlog, hb] at HBG
  have HYG := hid hyg
  have hygl : yg.size ≤ 100000 := by omega
  have hyll : yl.size ≤ 9000 := by omega
  have hpre : yg.size ≤ yl.size := by
    have e : (s.x r).log.take s.lg.length = s.lg := by simpa using hb
    have := congrArg List.length e
    rw [List.length_take] at this
    rw [hygs, hyls, hlog]; omega
  have hcut : pickN k ((yl.size : Int) - (yg.size : Int) + 1) = 0 := by
    have := h0
    unfold CS.cut at this
    rw [if_pos ⟨hl, hne⟩, if_pos hb] at this
    have e : (((s.x r).log.length - s.lg.length : Nat) : Int) + 1 = (yl.size : Int) - (yg.size : Int) + 1 := by rw [← hlog, ← hyls, ← hygs]; omega
    rw [e] at this
    have := pickN_bd k ((yl.size : Int) - (yg.size : Int) + 1) (by omega)
    omega
  have HPK := hid (fun wx => pick_any k ((yl.size : Int) - (yg.size : Int) + 1) wx hk1 hk2 (by omega) (by omega))
  rw [hcut] at HPK
  have hexy : yl.extract 0 yl.size = yl := by rw [hyl, bs_extract, bs_size]; simp
  clear hcut
  clear hyg hygs hyls hne hb
  clear h hF hpe hxe hleft hcr hop hlog hst hsl hsl2 htk hyl hys hysz hyx C hlo hp h0
  go_enter Tryz.func61, Tryz.ntmps61
  go_wp2_with fail
  refine HLG.out.mono ?_
  rintro e w0 ⟨rfl, hw0⟩
  subst w0
  go_wp2_with fail
  refine HS0.out.mono ?_
  rintro e w1 ⟨rfl, b1⟩
  have c1 := HH.out.blw b1
  have v0 : w1.cell? ⟨m.cb, 0, none⟩ = some (.int .i64 s.n) := by rw [c1.cell]; rfl
  have v11 : w1.cell? ⟨m.cb, 11, none⟩ = some (.int .i64 s.last) := by rw [c1.cell]; rfl
  have v12 : w1.cell? ⟨m.cb, 12, none⟩ = some (.string yg) := by rw [c1.cell, HYG.out]; rfl
  rw [hl] at v11
  have HOP1 := hid (HOP.out w1 c1.tab)
  have C1 := hid (And.intro c1 b1)
  clear c1 b1 u2 ux
  go_wp2_with fail
  refine (HBG.out _).mono ?_
  rintro e w0 ⟨rfl, hw0⟩
  rw [hw0]; clear hw0 w0
  go_wp2_with fail
  refine (HPK.out _).mono ?_
  rintro e w0 ⟨rfl, hw0⟩
  rw [hw0]; clear hw0 w0
  go_wp2_with fail
  refine HOP1.out.mono ?_
  rintro e w2 ⟨b2, hor⟩
  obtain ⟨he, hj⟩ : e = .returned (.tuple #[.pointer (some ⟨w1.heap.size, 0, none⟩), .int .i64 0]) ∧ w2.heap[w1.heap.size]? = some (.cells (repArr r s.n (s.p r) (s.x r).bare) 69) := by
    rcases hor with ⟨_, h1, h2⟩ | ⟨h1, _⟩
    · exact ⟨h1, h2⟩
    · cases h1
  clear hor
  subst he
  have q2 := C1.out.1.b.blw b2
  have x11 := q2.set 11 (.int .i64 (-1))
  have x18 := x11.set 18 (.int .i64 (-1))
  obtain ⟨W3, hW3⟩ : ∃ W3, W3 = (w2.setCell ⟨m.cb, 11, none⟩ (.int .i64 (-1))).setCell ⟨m.cb, 18, none⟩ (.int .i64 (-1)) := ⟨_, rfl⟩
  have B23 : Bx m.cb w2 W3 := by rw [hW3]; exact ((Bx.rfl m.cb w2).scs 11 [_]).scs 18 [_]
  rw [← hW3] at x18
  have hj3 := B23.keep hj (ne_ty hj q2.row (by decide))
  have hlim : ∀ z, m.own z → z < w1.heap.size := C1.out.1.lim
  have x4 := x18.setX hr hj3 hlim (Nat.le_refl _)
  obtain ⟨W4, hW4⟩ : ∃ W4, W4 = W3.setCell ⟨m.xb, r, none⟩ (.pointer (some ⟨w1.heap.size, 0, none⟩)) := ⟨_, rfl⟩
  rw [← hW4] at x4
  have hj4 : W4.heap[w1.heap.size]? = some (.cells (repArr r s.n (s.p r) (s.x r).bare) 69) := by
    have := x4.xs.rep r hr
    simp only [upd_at] at this
    exact this
  have HST4 := hid (HST.out W4 w1.heap.size hj4)
  have y11 : w2.cell? ⟨m.cb, 11, none⟩ = some (.int .i64 s.last) := by rw [q2.cell]; rfl
  have y18 : w2.cell? ⟨m.cb, 18, none⟩ = some (.int .i64 s.client) := by rw [q2.cell]; rfl
  have y2 : w2.cell? ⟨m.cb, 2, none⟩ = some (.slice (some ⟨m.xb, 0, none⟩) s.n m.cx) := by rw [q2.cell]; rfl
  have yf := q2.fz
  have yx : w2.cell? ⟨m.xb, r, none⟩ = some (.pointer (some ⟨m.b r, 0, none⟩)) := by rw [blk_cell q2.xs.xs]; exact q2.xs.xr r hr
  have yxf : w2.frozen? ⟨m.xb, r, none⟩ = false := blk_frozen q2.xs.xs r
  have nxc : m.xb ≠ m.cb := ne_ty q2.xs.xs q2.row (by decide)
  have KP4 : Kp m.own w W4 := by
    rw [hW4]
    exact ((C1.out.2.kp _).tr ((b2.kp _).tr (B23.kp HH.out.oc))).tr (((Bx.rfl m.xb W3).scs r [_]).kp q2.xs.ox)
  have X4 := hid (And.intro x4 KP4)
  have HW4 : Hid (W4 = ((w2.setCell ⟨m.cb, 11, none⟩ (.int .i64 (-1))).setCell ⟨m.cb, 18, none⟩ (.int .i64 (-1))).setCell ⟨m.xb, r, none⟩ (.pointer (some ⟨w1.heap.size, 0, none⟩))) := by show W4 = _; rw [hW4, hW3]
  clear q2 x11 x18 hW3 hW4 B23 hj hj3 hlim x4 hj4 KP4 b2 v0 v11
  go_wp2_with fail
  rw [← HW4.out]
  refine HST4.out.mono ?_
  rintro e w5 ⟨rfl, b5⟩
  have x5 := X4.out.1.blw b5
  have z0 : w5.cell? ⟨m.cb, 0, none⟩ = some (.int .i64 s.n) := by rw [x5.cell]; rfl
  have z8 : w5.cell? ⟨m.cb, 8, none⟩ = some (.slice (some ⟨m.ob, 0, none⟩) s.n m.co) := by rw [x5.cell]; rfl
  have zo : w5.cell? ⟨m.ob, r, none⟩ = some (.string ⟨(s.owns r).toArray⟩) := by rw [blk_cell x5.ow.tk]; exact x5.ow.tr r hr
  have zof : w5.frozen? ⟨m.ob, r, none⟩ = false := blk_frozen x5.ow.tk r
  have hr0 : (0 : Int) ≤ (r : Int) := Int.natCast_nonneg _
  have hr1 : (r : Int) < (s.n : Int) := by omega
  have x6 := x5.setO hr (st.take s.n)
  have X5 := hid (And.intro x6 (X4.out.2.tr (b5.kp _)))
  clear x5 x6 b5 y11 y18 y2 yf yx yxf
  have FIN : Hid (F ((w5.setCell ⟨m.ob, r, none⟩ (.string (ys.extract 0 s.n))).drew)) := by
    show F _
    rw [HF.out, HYX.out]
    have x7 := (X5.out.1.blw (Blw.dr (Blw.rfl _))).flags s.said s.err (-1) s.lg s.st s.old s.nevs s.nwire s.nacks (-1) s.tok
    have ko : Kp m.own w (w5.setCell ⟨m.ob, r, none⟩ (.string ⟨(st.take s.n).toArray⟩)).drew := X5.out.2.tr ((((Bx.rfl m.ob w5).scs r [_]).kp HH.out.oo).tr ((Blw.dr (Blw.rfl _)).kp _))
    have key : s.crash r k = { s with last := -1, client := -1, p := upd s.p r (s.p r), x := upd s.x r (s.x r).bare, owns := upd s.owns r (st.take s.n) } := by
      rw [HCR.out.1]; unfold CS.again
      rw [HCR.out.2, HTK.out]
    rw [key]
    refine ⟨_, ClB.at x7 (fun hl => absurd hl (by show ¬ (0 : Int) ≤ -1; omega)), ko, ?_, rfl, fun z hz => Or.inl hz⟩
    rintro z (c | c)
    · exact .inl c
    · right
      have := C1.out.2.sz; omega
  clear HF
  go_wp2
  go_big_region
  go_wp2
  go_ret
  exact ⟨rfl, FIN.out⟩

end Go.Proofs.YtalaldfgjgpacaaGreatDoor

namespace Go.Proofs.YtalaldfgjgpacaaGreatDoor
set_option linter.unusedVariables false
set_option linter.unusedSimpArgs false
open Go.RowKit
attribute [local go_sem ↓] Go.wp_at_zero Go.wp_at_succ

set_option maxRecDepth 100000 in
set_option maxHeartbeats 8000000 in
theorem crash_c0 {w : World} {m : CM} {s : CS} {r : Nat} {k : Int} {p0 : Pc} {x0 : Ext} (h : ClAt w m s) (hr : r < s.n) (hp : (s.p r).ok) (hll : s.lg.length ≤ 100000) (hlo : (s.x r).log.length ≤ 9000) (hl : s.last = r) (hne : (s.x r).log ≠ s.lg) (hb : ((s.x r).log.take s.lg.length == s.lg) = false) (hk1 : -9223372036854775808 ≤ k) (hk2 : k ≤ 9223372036854775807) (C : CrashOk s r k p0 x0) (h0 : s.cut r k = 0) :
    Calls Tryz.prog 61 #[.pointer (some ⟨m.cb, 0, none⟩), .int .i64 r, .int .i64 k] w fun e w' => e = .returned (.bool true) ∧ ∃ m', Moved w w' m m' (s.crash r k) := by
  have hn3 := h.n3
  have hn1 := h.n1
  obtain ⟨F, hF⟩ : ∃ F : World → Prop, F = fun w' => ∃ m', Moved w w' m m' (s.crash r k) := ⟨_, rfl⟩
  rw [show (fun e w' => e = Ending.returned (.bool true) ∧ ∃ m', Moved w w' m m' (s.crash r k)) = fun e w' => e = Ending.returned (.bool true) ∧ F w' by rw [hF]]
  have HF := hid hF
  have HLG := hid (log_any (m.b r) r s.n (s.p r) (s.x r) w (h.xs.rep r hr))
  have HS0 := hid (state_any (xt := s.x r) (m.b r) r s.n (s.p r) w hn3 hp (h.xs.rep r hr))
  rw [show (s.p r).digsTo s.n ++ [59] ++ (s.p r).entTo 12 = stL (s.p r) s.n from rfl] at HS0
  have hpe : p0 = s.p r := (C.no h0).1
  have hxe : x0 = s.x r := (C.no h0).2
  have hleft : s.left r k = (s.x r).log := by unfold CS.left; rw [if_pos h0]
  have hcr : s.crash r k = s.again r (s.x r).log := by unfold CS.crash; rw [if_pos h0, hleft]
  have hop : opened s.n (s.x r).log = ⟨true, (s.x r).log.length, s.p r, (s.x r).bare⟩ := by
    have := C.op
    rw [hleft, hpe, hxe] at this
    exact this
  obtain ⟨lo, hlog⟩ : ∃ lo, lo = (s.x r).log := ⟨_, rfl⟩
  rw [← hlog] at HLG hop hlo hcr
  obtain ⟨st, hst⟩ : ∃ st, st = stL (s.p r) s.n := ⟨_, rfl⟩
  rw [← hst] at HS0
  have HOP := hid (fun (wx : World) (ht : Tab Tryz.prog wx) => open_yes r s.n lo (opened s.n lo) wx rfl hlo hn3 hr ht)
  rw [hop] at HOP
  have HST := hid (fun (wx : World) (b : Nat) (hb : wx.heap[b]? = some (.cells (repArr r s.n (s.p r) (s.x r).bare) 69)) => state_any (xt := (s.x r).bare) b r s.n (s.p r) wx hn3 hp hb)
  rw [show (s.p r).digsTo s.n ++ [59] ++ (s.p r).entTo 12 = stL (s.p r) s.n from rfl, ← hst] at HST
  have hsl : (s.n : Int) < (st.length : Int) := by
    rw [hst]; unfold stL
    rw [List.length_append, List.length_append, digsTo_len]
    simp; omega
  have hsl2 : st.length ≤ 1000 := by
    rw [hst]; unfold stL
    rw [List.length_append, List.length_append, digsTo_len]
    have := entTo_len' _ hp
    simp; omega
  have htk : st.take s.n = (s.p r).digsTo s.n := by
    rw [hst]; unfold stL
    rw [List.append_assoc, List.take_append_of_le_length (by rw [digsTo_len]; exact Nat.le_refl _), List.take_of_length_le (by rw [digsTo_len]; exact Nat.le_refl _)]
  have HTK := hid htk
  have HCR := hid (And.intro hcr hop)
  obtain ⟨yl, hyl⟩ : ∃ yl : ByteArray, yl = ⟨lo.toArray⟩ := ⟨_, rfl⟩
  obtain ⟨ys, hys⟩ : ∃ ys : ByteArray, ys = ⟨st.toArray⟩ := ⟨_, rfl⟩
  rw [← hyl] at HLG HOP
  rw [← hys] at HS0 HST
  have hysz : ys.size = st.length := by rw [hys, bs_size]
  have hyx : ys.extract 0 s.n = ⟨(st.take s.n).toArray⟩ := by rw [hys, bs_extract]; simp
  have HYX := hid hyx
  have hys1 : (s.n : Int) < (ys.size : Int) := by omega
  have hys2 : ys.size ≤ 1000 := by omega
  have HYL := hid (And.intro hyl (And.intro hys hlog))
  have u2 : w.cell? ⟨m.cb, 2, none⟩ = some (.slice (some ⟨m.xb, 0, none⟩) s.n m.cx) := by rw [h.cell]; rfl
  have ux := h.x0 hr
  have HH := hid h
  obtain ⟨yg, hyg⟩ : ∃ yg : ByteArray, yg = ⟨s.lg.toArray⟩ := ⟨_, rfl⟩
  have hygs : yg.size = s.lg.length := by rw [hyg, bs_size]
  have hyne : (yl.toList == yg.toList) = false := by
    rw [beq_eq_false_iff_ne, hyl, hyg, bs_toList, bs_toList, hlog]; exact hne
  have hyls : yl.size = lo.length := by rw [hyl, bs_size]
  have HBG := hid (fun (wx : World) => begins_any lo s.lg wx (by omega) (by omega))
  rw [← hyl, ← hyg, hlog, hb] at HBG
  have HYG := hid hyg
  have hygl : yg.size ≤ 100000 := by omega
  have hyll : yl.size ≤ 9000 := by omega
  have hcut : pickN k 2 = 0 := by
    have := h0
    unfold CS.cut at this
    rw [if_pos ⟨hl, hne⟩, if_neg (by rw [hb]; decide)] at this
    have := pickN_bd k 2 (by omega)
    omega
  have HPK := hid (fun wx => pick_any k 2 wx hk1 hk2 (by omega) (by omega))
  rw [hcut] at HPK
  clear hcut
  clear hyg hygs hyls hne hb
  clear h hF hpe hxe hleft hcr hop hlog hst hsl hsl2 htk hyl hys hysz hyx C hlo hp h0
  go_enter Tryz.func61, Tryz.ntmps61
  go_wp2_with fail
  refine HLG.out.mono ?_
  rintro e w0 ⟨rfl, hw0⟩
  subst w0
  go_wp2_with fail
  refine HS0.out.mono ?_
  rintro e w1 ⟨rfl, b1⟩
  have c1 := HH.out.blw b1
  have v0 : w1.cell? ⟨m.cb, 0, none⟩ = some (.int .i64 s.n) := by rw [c1.cell]; rfl
  have v11 : w1.cell? ⟨m.cb, 11, none⟩ = some (.int .i64 s.last) := by rw [c1.cell]; rfl
  have v12 : w1.cell? ⟨m.cb, 12, none⟩ = some (.string yg) := by rw [c1.cell, HYG.out]; rfl
  rw [hl] at v11
  have HOP1 := hid (HOP.out w1 c1.tab)
  have C1 := hid (And.intro c1 b1)
  clear c1 b1 u2 ux
  go_wp2_with fail
  refine (HBG.out _).mono ?_
  rintro e w0 ⟨rfl, hw0⟩
  rw [hw0]; clear hw0 w0
  go_wp2_with fail
  refine (HPK.out _).mono ?_
  rintro e w0 ⟨rfl, hw0⟩
  rw [hw0]; clear hw0 w0
  go_wp2_with fail
  refine HOP1.out.mono ?_
  rintro e w2 ⟨b2, hor⟩
  obtain ⟨he, hj⟩ : e = .returned (.tuple #[.pointer (some ⟨w1.heap.size, 0, none⟩), .int .i64 0]) ∧ w2.heap[w1.heap.size]? = some (.cells (repArr r s.n (s.p r) (s.x r).bare) 69) := by
    rcases hor with ⟨_, h1, h2⟩ | ⟨h1, _⟩
    · exact ⟨h1, h2⟩
    · cases h1
  clear hor
  subst he
  have q2 := C1.out.1.b.blw b2
  have x11 := q2.set 11 (.int .i64 (-1))
  have x18 := x11.set 18 (.int .i64 (-1))
  obtain ⟨W3, hW3⟩ : ∃ W3, W3 = (w2.setCell ⟨m.cb, 11, none⟩ (.int .i64 (-1))).setCell ⟨m.cb, 18, none⟩ (.int .i64 (-1)) := ⟨_, rfl⟩
  have B23 : Bx m.cb w2 W3 := by rw [hW3]; exact ((Bx.rfl m.cb w2).scs 11 [_]).scs 18 [_]
  rw [← hW3] at x18
  have hj3 := B23.keep hj (ne_ty hj q2.row (by decide))
  have hlim : ∀ z, m.own z → z < w1.heap.size := C1.out.1.lim
  have x4 := x18.setX hr hj3 hlim (Nat.le_refl _)
  obtain ⟨W4, hW4⟩ : ∃ W4, W4 = W3.setCell ⟨m.xb, r, none⟩ (.pointer (some ⟨w1.heap.size, 0, none⟩)) := ⟨_, rfl⟩
  rw [← hW4] at x4
  have hj4 : W4.heap[w1.heap.size]? = some (.cells (repArr r s.n (s.p r) (s.x r).bare) 69) := by
    have := x4.xs.rep r hr
    simp only [upd_at] at this
    exact this
  have HST4 := hid (HST.out W4 w1.heap.size hj4)
  have y11 : w2.cell? ⟨m.cb, 11, none⟩ = some (.int .i64 s.last) := by rw [q2.cell]; rfl
  have y18 : w2.cell? ⟨m.cb, 18, none⟩ = some (.int .i64 s.client) := by rw [q2.cell]; rfl
  have y2 : w2.cell? ⟨m.cb, 2, none⟩ = some (.slice (some ⟨m.xb, 0, none⟩) s.n m.cx) := by rw [q2.cell]; rfl
  have yf := q2.fz
  have yx : w2.cell? ⟨m.xb, r, none⟩ = some (.pointer (some ⟨m.b r, 0, none⟩)) := by rw [blk_cell q2.xs.xs]; exact q2.xs.xr r hr
  have yxf : w2.frozen? ⟨m.xb, r, none⟩ = false := blk_frozen q2.xs.xs r
  have nxc : m.xb ≠ m.cb := ne_ty q2.xs.xs q2.row (by decide)
  have KP4 : Kp m.own w W4 := by
    rw [hW4]
    exact ((C1.out.2.kp _).tr ((b2.kp _).tr (B23.kp HH.out.oc))).tr (((Bx.rfl m.xb W3).scs r [_]).kp q2.xs.ox)
  have X4 := hid (And.intro x4 KP4)
  have HW4 : Hid (W4 = ((w2.setCell ⟨m.cb, 11, none⟩ (.int .i64 (-1))).setCell ⟨m.cb, 18, none⟩ (.int .i64 (-1))).setCell ⟨m.xb, r, none⟩ (.pointer (some ⟨w1.heap.size, 0, none⟩))) := by show W4 = _; rw [hW4, hW3]
  clear q2 x11 x18 hW3 hW4 B23 hj hj3 hlim x4 hj4 KP4 b2 v0 v11
  go_wp2_with fail
  rw [← HW4.out]
  refine HST4.out.mono ?_
  rintro e w5 ⟨rfl, b5⟩
  have x5 := X4.out.1.blw b5
  have z0 : w5.cell? ⟨m.cb, 0, none⟩ = some (.int .i64 s.n) := by rw [x5.cell]; rfl
  have z8 : w5.cell? ⟨m.cb, 8, none⟩ = some (.slice (some ⟨m.ob, 0, none⟩) s.n m.co) := by rw [x5.cell]; rfl
  have zo : w5.cell? ⟨m.ob, r, none⟩ = some (.string ⟨(s.owns r).toArray⟩) := by rw [blk_cell x5.ow.tk]; exact x5.ow.tr r hr
  have zof : w5.frozen? ⟨m.ob, r, none⟩ = false := blk_frozen x5.ow.tk r
  have hr0 : (0 : Int) ≤ (r : Int) := Int.natCast_nonneg _
  have hr1 : (r : Int) < (s.n : Int) := by omega
  have x6 := x5.setO hr (st.take s.n)
  have X5 := hid (And.intro x6 (X4.out.2.tr (b5.kp _)))
  clear x5 x6 b5 y11 y18 y2 yf yx yxf
  have FIN : Hid (F ((w5.setCell ⟨m.ob, r, none⟩ (.string (ys.extract 0 s.n))).drew)) := by
    show F _
    rw [HF.out, HYX.out]
    have x7 := (X5.out.1.blw (Blw.dr (Blw.rfl _))).flags s.said s.err (-1) s.lg s.st s.old s.nevs s.nwire s.nacks (-1) s.tok
    have ko : Kp m.own w (w5.setCell ⟨m.ob, r, none⟩ (.string ⟨(st.take s.n).toArray⟩)).drew := X5.out.2.tr ((((Bx.rfl m.ob w5).scs r [_]).kp HH.out.oo).tr ((Blw.dr (Blw.rfl _)).kp _))
    have key : s.crash r k = { s with last := -1, client := -1, p := upd s.p r (s.p r), x := upd s.x r (s.x r).bare, owns := upd s.owns r (st.take s.n) } := by
      rw [HCR.out.1]; unfold CS.again
      rw [HCR.out.2, HTK.out]
    rw [key]
    refine ⟨_, ClB.at x7 (fun hl => absurd hl (by show ¬ (0 : Int) ≤ -1; omega)), ko, ?_, rfl, fun z hz => Or.inl hz⟩
    rintro z (c | c)
    · exact .inl c
    · right
      have := C1.out.2.sz; omega
  clear HF
  go_wp2
  go_big_region
  go_wp2
  go_ret
  exact ⟨rfl, FIN.out⟩

end Go.Proofs.YtalaldfgjgpacaaGreatDoor
