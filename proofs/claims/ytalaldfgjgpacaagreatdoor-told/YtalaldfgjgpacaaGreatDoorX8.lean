import Derived.Test.YtalaldfgjgpacaaGreatDoorHAW
import Derived.Deep.RegionWith
import Derived.Deep.RegionHeld3
import Derived.Deep.RegionLaw
import Derived.Deep.DeepCutAuto
import Derived.BigRegion
namespace Go.Proofs.YtalaldfgjgpacaaGreatDoor
set_option linter.unusedVariables false
set_option linter.unusedSimpArgs false
open Go.RowKit
attribute [local go_sem ↓] Go.wp_at_zero Go.wp_at_succ

/-- What is said and the error are noted. -/
def notedSE (W0 : World) (m : CM) (l : Bs) (e : Int) : World := (W0.setCell ⟨m.cb, 9, none⟩ (.string ⟨l.toArray⟩)).setCell ⟨m.cb, 10, none⟩ (.int .i64 e)
theorem notedSE_cl {W0 : World} {m : CM} {t : CS} (h : ClAt W0 m t) (l : Bs) (e : Int) : ClAt (notedSE W0 m l e) m { t with said := l, err := e } ∧ Bx m.cb W0 (notedSE W0 m l e) := by
  obtain ⟨c1, b1⟩ := said_cl h l
  obtain ⟨c2, b2⟩ := err_cl c1 e
  exact ⟨c2, b1.tr b2⟩

/-- What is known ahead of Ship. -/
structure ShipPre (w : World) (m : CM) (t : CS) (r q : Nat) : Prop where
  cl : ClAt w m t
  hr : r < t.n
  hq : q < t.n
  pok : (t.p r).ok
  had : (t.x r).had < 100
  ack : (t.x r).ack q ≤ (t.x r).had
  tl : ∀ c, c ≤ (t.x r).kept → (tailJ (t.x r).late c 0).ok
  said : t.said = []

set_option maxRecDepth 100000 in
set_option maxHeartbeats 4000000 in
theorem ship_self {w : World} {m : CM} {t : CS} {r : Nat} (H : ShipPre w m t r r) :
    Calls Tryz.prog 64 #[.pointer (some ⟨m.cb, 0, none⟩), .int .i64 r, .int .i64 r] w fun e w' => e = .returned (.bool true) ∧ ∃ m', Moved w w' m m' (t.ship r r) := by
  have h := H.cl
  have hr := H.hr
  have HS := hid (ship_no (m.b r) r t.n (r : Int) (t.p r) (t.x r) w (by simp [isOth]) (h.xs.rep r hr))
  obtain ⟨F, hF⟩ : ∃ F : World → Prop, F = fun w' => ∃ m', Moved w w' m m' (t.ship r r) := ⟨_, rfl⟩
  rw [show (fun e w' => e = Ending.returned (.bool true) ∧ ∃ m', Moved w w' m m' (t.ship r r)) = fun e w' => e = Ending.returned (.bool true) ∧ F w' by rw [hF]]
  have HF := hid hF
  have u2 : w.cell? ⟨m.cb, 2, none⟩ = some (.slice (some ⟨m.xb, 0, none⟩) t.n m.cx) := by rw [h.cell]; rfl
  have ux := h.x0 hr
  have HH := hid H
  clear H h hF
  go_enter Tryz.func64, Tryz.ntmps64
  go_wp2_with fail
  refine HS.out.mono ?_
  rintro e w1 ⟨rfl, b1⟩
  have c1 := HH.out.cl.blw b1
  have v9 : w1.cell? ⟨m.cb, 9, none⟩ = some (.string ⟨t.said.toArray⟩) := by rw [c1.cell]; rfl
  have v10 : w1.cell? ⟨m.cb, 10, none⟩ = some (.int .i64 t.err) := by rw [c1.cell]; rfl
  have vf := c1.fz
  obtain ⟨c2, b2⟩ := notedSE_cl c1 [] 1
  have FIN : Hid (F (notedSE w1 m [] 1)) := by
    show F _
    rw [HF.out]
    refine ⟨m, ?_, (b1.kp _).tr (b2.kp HH.out.cl.oc), fun k hk => .inl hk, rfl, fun k hk => hk⟩
    have e : t.ship r r = { t with said := [], err := 1 } := by unfold CS.ship; rw [if_pos rfl, ← HH.out.said]
    rw [e]; exact c2
  clear c1 c2 b2 b1 u2 ux
  go_wp2
  go_ret
  exact ⟨rfl, FIN.out⟩

theorem shipL_ne (me : Nat) (p : Pc) (x : Ext) (r a : Nat) (h : x.had ≠ a) : ∃ c l, shipL me p x r a = c :: l := by
  unfold shipL
  rw [if_neg h]
  split
  · exact ⟨_, _, rfl⟩
  · exact ⟨_, _, rfl⟩

set_option maxRecDepth 100000 in
set_option maxHeartbeats 4000000 in
theorem ship_quiet {w : World} {m : CM} {t : CS} {r q : Nat} (H : ShipPre w m t r q) (hne : q ≠ r) (hh : (t.x r).had = (t.x r).ack q) (hle : Vec.le (t.K r) (t.K q)) :
    Calls Tryz.prog 64 #[.pointer (some ⟨m.cb, 0, none⟩), .int .i64 r, .int .i64 q] w fun e w' => e = .returned (.bool true) ∧ ∃ m', Moved w w' m m' (t.ship r q) := by
  have h := H.cl
  have hr := H.hr
  have hq := H.hq
  have HS := hid (ship_yes (m.b r) r t.n q (t.p r) (t.x r) w _ h.n3 hr hq hne H.pok H.had rfl H.ack H.tl (h.xs.rep r hr))
  rw [show shipL r (t.p r) (t.x r) q ((t.x r).ack q) = [] by unfold shipL; rw [if_pos hh]] at HS
  obtain ⟨F, hF⟩ : ∃ F : World → Prop, F = fun w' => ∃ m', Moved w w' m m' (t.ship r q) := ⟨_, rfl⟩
  rw [show (fun e w' => e = Ending.returned (.bool true) ∧ ∃ m', Moved w w' m m' (t.ship r q)) = fun e w' => e = Ending.returned (.bool true) ∧ F w' by rw [hF]]
  have HF := hid hF
  have HLE := hid hle
  have HHH := hid hh
  have u2 : w.cell? ⟨m.cb, 2, none⟩ = some (.slice (some ⟨m.xb, 0, none⟩) t.n m.cx) := by rw [h.cell]; rfl
  have ux := h.x0 hr
  have HH := hid H
  have hqr : ((q : Int) == (r : Int)) = false := by simp; omega
  have hr0 : (0 : Int) ≤ (r : Int) := Int.natCast_nonneg _
  have hr1 : (r : Int) < (t.n : Int) := by omega
  have hq0 : (0 : Int) ≤ (q : Int) := Int.natCast_nonneg _
  have hq1 : (q : Int) < (t.n : Int) := by omega
  clear H h hF hle hh
  go_enter Tryz.func64, Tryz.ntmps64
  go_wp2_with fail
  refine HS.out.mono ?_
  rintro e w1 ⟨rfl, b1⟩
  have c1 := HH.out.cl.blw b1
  have v9 : w1.cell? ⟨m.cb, 9, none⟩ = some (.string ⟨t.said.toArray⟩) := by rw [c1.cell]; rfl
  have v10 : w1.cell? ⟨m.cb, 10, none⟩ = some (.int .i64 t.err) := by rw [c1.cell]; rfl
  have vf := c1.fz
  obtain ⟨c2, b2⟩ := notedSE_cl c1 [] 0
  obtain ⟨W2, hW2⟩ : ∃ W2, W2 = notedSE w1 m [] 0 := ⟨_, rfl⟩
  rw [← hW2] at c2 b2
  have HW2 : Hid (W2 = (w1.setCell ⟨m.cb, 9, none⟩ (.string ⟨([] : Bs).toArray⟩)).setCell ⟨m.cb, 10, none⟩ (.int .i64 0)) := hW2
  have c2d : ClAt W2.drew m { t with said := [], err := 0 } := c2.blw ((Blw.rfl W2).dr)
  have HWI := hid (fun (wx : World) (h1 : wx.heap[m.g r]? = some (.cells (intsV (vecL t.n (t.K r))) 3)) (h2 : wx.heap[m.g q]? = some (.cells (intsV (vecL t.n (t.K q))) 3)) => within_any (vecL t.n (t.K r)) (vecL t.n (t.K q)) t.n (m.g r) (m.g q) wx c2.n3 (vecL_len _ _) (vecL_len _ _) h1 h2)
  have hwt : ∀ k, k ≤ t.n → withinTo (vecL t.n (t.K r)) (vecL t.n (t.K q)) k = true := by
    intro k
    induction k with
    | zero => intro _; rfl
    | succ k ih =>
      intro hk
      rw [withinTo, ih (by omega), vecL_get _ (by omega), vecL_get _ (by omega)]
      have := HLE.out k
      simp; omega
  have HWT := hid (hwt t.n (Nat.le_refl _))
  have C2 := hid (And.intro c2 (And.intro ((b1.kp m.own).tr (b2.kp HH.out.cl.oc)) c2d))
  have S2 := hid (show (W2.drew.cell? ⟨m.cb, 3, none⟩ = some (.slice (some ⟨m.kb, 0, none⟩) t.n m.ck) ∧ W2.drew.cell? ⟨m.kb, r, none⟩ = some (.slice (some ⟨m.g r, 0, none⟩) t.n t.n) ∧ W2.drew.cell? ⟨m.kb, q, none⟩ = some (.slice (some ⟨m.g q, 0, none⟩) t.n t.n)) from ⟨by rw [c2d.cell]; rfl, c2d.k0 hr, c2d.k0 hq⟩)
  clear c1 c2 b2 b1 u2 ux hW2 c2d hwt
  go_wp2_with fail
  rw [← HW2.out]
  go_region_held3 (fun w' => w'.cell? ⟨m.cb, 3, none⟩ = some (.slice (some ⟨m.kb, 0, none⟩) t.n m.ck) ∧ w'.cell? ⟨m.kb, r, none⟩ = some (.slice (some ⟨m.g r, 0, none⟩) t.n t.n) ∧ w'.cell? ⟨m.kb, q, none⟩ = some (.slice (some ⟨m.g q, 0, none⟩) t.n t.n)) (first | exact S2.out | exact S3.out)
    (first
      | (go_at_call 69
         refine (HWI.out _ (C2.out.2.2.ks.kc r hr) (C2.out.2.2.ks.kc q hq)).mono ?_
         rintro e w3 ⟨he, b3⟩
         rw [HWT.out] at he
         subst he
         have c3 := C2.out.2.2.blw b3
         have S3 := hid (show (w3.cell? ⟨m.cb, 3, none⟩ = some (.slice (some ⟨m.kb, 0, none⟩) t.n m.ck) ∧ w3.cell? ⟨m.kb, r, none⟩ = some (.slice (some ⟨m.g r, 0, none⟩) t.n t.n) ∧ w3.cell? ⟨m.kb, q, none⟩ = some (.slice (some ⟨m.g q, 0, none⟩) t.n t.n)) from ⟨by rw [c3.cell]; rfl, c3.k0 hr, c3.k0 hq⟩)
         have C3 := hid (And.intro c3 b3)
         clear c3 b3))
  all_goals
    have FIN : Hid (F w3) := by
      show F _
      rw [HF.out]
      refine ⟨m, ?_, (C2.out.2.1.tr (((Blw.rfl W2).dr).kp _)).tr (C3.out.2.kp _), fun k hk => .inl hk, rfl, fun k hk => hk⟩
      have e : t.ship r q = { t with said := [], err := 0 } := by unfold CS.ship; rw [if_neg hne, if_pos HHH.out, ← HH.out.said]
      rw [e]; exact C3.out.1
    go_wp2
    go_ret
    exact ⟨rfl, FIN.out⟩

/-- What the walk looks at while a message is written. -/
structure SeesW (wx : World) (m : CM) (t : CS) (r : Nat) : Prop where
  row : wx.heap[m.cb]? = some (.cells (rowA m t) 38)
  kn : wx.heap[m.kb]? = some (.cells m.ka 36)
  kr : m.ka[r]? = some (.slice (some ⟨m.g r, 0, none⟩) t.n t.n)
theorem SeesW.of {wx : World} {m : CM} {t : CS} {r : Nat} (h : ClAt wx m t) (hr : r < t.n) : SeesW wx m t r := ⟨h.row, h.ks.kn, h.ks.kr r hr⟩
theorem SeesW.grown {w1 w2 : World} {m : CM} {t : CS} {r : Nat} (h : ClAt w1 m t) (hr : r < t.n) (hg : w1.grownBy w2 m.wv.ownBlock) : SeesW w2 m t r := by
  have e : ∀ {j : Nat} {C : Array Value} {u : TypeId}, w1.heap[j]? = some (.cells C u) → 104 ≠ u → w2.heap[j]? = some (.cells C u) := fun hj hne => (hg.block _ (lt_of_blk hj) (fun c => row_ne h.wi.o hj hne c.symm)).trans hj
  exact ⟨e h.row (by decide), e h.ks.kn (by decide), h.ks.kr r hr⟩
theorem SeesW.cells {wx : World} {m : CM} {t : CS} {r : Nat} (h : SeesW wx m t r) : wx.cell? ⟨m.cb, 3, none⟩ = some (.slice (some ⟨m.kb, 0, none⟩) t.n m.ck) ∧ wx.cell? ⟨m.kb, r, none⟩ = some (.slice (some ⟨m.g r, 0, none⟩) t.n t.n) :=
  ⟨by rw [blk_cell h.row]; rfl, by rw [blk_cell h.kn]; exact h.kr⟩
theorem SeesW.c5 {wx : World} {m : CM} {t : CS} {r : Nat} (h : SeesW wx m t r) {ea : Option Addr} {el ec : Nat} (he : m.wv = .slice ea el ec) : wx.cell? ⟨m.cb, 5, none⟩ = some (.slice ea el ec) := by rw [blk_cell h.row, ← he]; rfl
theorem SeesW.set5 {wx : World} {m : CM} {t : CS} {r : Nat} (h : SeesW wx m t r) (v : Value) :
    (wx.setCell ⟨m.cb, 5, none⟩ v).cell? ⟨m.cb, 3, none⟩ = some (.slice (some ⟨m.kb, 0, none⟩) t.n m.ck) ∧ (wx.setCell ⟨m.cb, 5, none⟩ v).cell? ⟨m.kb, r, none⟩ = some (.slice (some ⟨m.g r, 0, none⟩) t.n t.n) := by
  have hb : Bx m.cb wx (wx.setCell ⟨m.cb, 5, none⟩ v) := (Bx.rfl m.cb wx).scs 5 [v]
  exact ⟨by rw [blk_cell (heap_setCell_self h.row _)]; rfl, by rw [blk_cell (hb.keep h.kn (ne_ty h.kn h.row (by decide)))]; exact h.kr⟩

set_option maxRecDepth 100000 in
set_option maxHeartbeats 8000000 in
theorem ship_send {w : World} {m : CM} {t : CS} {r q : Nat} (H : ShipPre w m t r q) (hne : q ≠ r) (hh : (t.x r).had ≠ (t.x r).ack q) (hlen : (shipL r (t.p r) (t.x r) q ((t.x r).ack q)).length ≤ 300) (hwl : t.wire.length ≤ 10000000) :
    Calls Tryz.prog 64 #[.pointer (some ⟨m.cb, 0, none⟩), .int .i64 r, .int .i64 q] w fun e w' => e = .returned (.bool true) ∧ ∃ m', Moved w w' m m' (t.ship r q) := by
  have h := H.cl
  have hr := H.hr
  have hq := H.hq
  have HS := hid (ship_yes (m.b r) r t.n q (t.p r) (t.x r) w _ h.n3 hr hq hne H.pok H.had rfl H.ack H.tl (h.xs.rep r hr))
  obtain ⟨c0, l0, hl0⟩ := shipL_ne r (t.p r) (t.x r) q _ hh
  obtain ⟨l, hl⟩ : ∃ l, l = shipL r (t.p r) (t.x r) q ((t.x r).ack q) := ⟨_, rfl⟩
  rw [← hl] at HS hlen hl0
  obtain ⟨y, hy⟩ : ∃ y : ByteArray, y = ⟨l.toArray⟩ := ⟨_, rfl⟩
  rw [← hy] at HS
  have hysz : y.size = l.length := by rw [hy, bs_size]
  have hyt : (y.toList == []) = false := by rw [hy, bs_toList, hl0]; rfl
  have hy300 : (y.size : Int) ≤ 300 := by omega
  obtain ⟨F, hF⟩ : ∃ F : World → Prop, F = fun w' => ∃ m', Moved w w' m m' (t.ship r q) := ⟨_, rfl⟩
  rw [show (fun e w' => e = Ending.returned (.bool true) ∧ ∃ m', Moved w w' m m' (t.ship r q)) = fun e w' => e = Ending.returned (.bool true) ∧ F w' by rw [hF]]
  have HF := hid hF
  have HHH := hid hh
  have HL := hid (And.intro hl hy)
  have u2 : w.cell? ⟨m.cb, 2, none⟩ = some (.slice (some ⟨m.xb, 0, none⟩) t.n m.cx) := by rw [h.cell]; rfl
  have ux := h.x0 hr
  have HH := hid H
  have hqr : ((q : Int) == (r : Int)) = false := by simp; omega
  have hr0 : (0 : Int) ≤ (r : Int) := Int.natCast_nonneg _
  have hr1 : (r : Int) < (t.n : Int) := by omega
  have hq0 : (0 : Int) ≤ (q : Int) := Int.natCast_nonneg _
  have hq1 : (q : Int) < (t.n : Int) := by omega
  clear H h hF hh hl hl0 hy hysz hlen
  go_enter Tryz.func64, Tryz.ntmps64
  go_wp2_with fail
  refine HS.out.mono ?_
  rintro e w1 ⟨rfl, b1⟩
  have c1 := HH.out.cl.blw b1
  have v9 : w1.cell? ⟨m.cb, 9, none⟩ = some (.string ⟨t.said.toArray⟩) := by rw [c1.cell]; rfl
  have v10 : w1.cell? ⟨m.cb, 10, none⟩ = some (.int .i64 t.err) := by rw [c1.cell]; rfl
  have vf := c1.fz
  obtain ⟨c2, b2⟩ := notedSE_cl c1 l 0
  obtain ⟨W2, hW2⟩ : ∃ W2, W2 = notedSE w1 m l 0 := ⟨_, rfl⟩
  rw [← hW2] at c2 b2
  have HW2 : Hid (W2 = (w1.setCell ⟨m.cb, 9, none⟩ (.string y)).setCell ⟨m.cb, 10, none⟩ (.int .i64 0)) := by rw [HL.out.2]; exact hW2
  have c2d : ClAt W2.drew m { t with said := l, err := 0 } := c2.blw ((Blw.rfl W2).dr)
  obtain ⟨ea, ec, hev', hevl⟩ := ownsRow_form c2d.wi.o
  have HEV := hid (show m.wv = .slice ea t.wire.length ec from hev')
  have HCP := hid (fun (wx : World) (hx : wx.heap[m.g r]? = some (.cells (intsV (vecL t.n (t.K r))) 3)) => copied_any (vecL t.n (t.K r)) t.n (m.g r) wx c2.n1 c2.n3 (vecL_len _ _) hx)
  have S4 := hid (SeesW.of c2d hr).cells
  have q4 := (SeesW.of c2d hr).c5 HEV.out
  have C2 := hid (And.intro c2 (And.intro ((b1.kp m.own).tr (b2.kp HH.out.cl.oc)) c2d))
  obtain ⟨i0, hi0', hz0, hz1, hz2⟩ := info_parts infoMail
  clear c1 c2 b2 b1 u2 ux hW2 c2d hev'
  go_wp2_with fail
  rw [← HW2.out]
  go_cut [] (fun wx => ∃ m6, Moved W2 wx m m6 { t with said := l, err := 0, wire := t.wire ++ [⟨l, r, q, t.K r⟩] })
  case first =>
    clear v9 v10 vf HF
    obtain ⟨s4a, s4b⟩ := S4.out
    go_region_law (first
        | ((refine step_append_lies _ (by rfl) _ _ _ (by rfl) 0 104 i0 _ 4 56 Tryz.underlying33 hi0' hz0 hz1 hz2 rfl (by omega) m.wv t.wire.length (flatC m.wf t.wire.length) (by rw [HEV.out]; rfl) C5.out.1.wi.o ⟨w5.heap.size, 0, none⟩ 1 1 [.string y, .int .i64 r, .int .i64 q, .slice (some ⟨W2.heap.size, 0, none⟩) t.n t.n] (by rfl) (by rfl) (World.news_of_block (t := 104) (fr := (0, 0)) H5n.out) (by simp [Value.oneCell']) (by omega) (by unfold maxLen; omega) (by omega) (by omega) (w5.heap.size + 1) (by simp) ?_; intro g6 cap6 w6 hown6 hgrow6 hat6 hlt6; have q6 := (SeesW.grown C5.out.1 hr hgrow6).c5 HEV.out; have fz6 := blk_frozen (SeesW.grown C5.out.1 hr hgrow6).row; have G6 := hid (And.intro hown6 (And.intro hgrow6 hat6)); clear hown6 hgrow6 hat6))
        | (go_simp
           go_at_call 120
           refine (HCP.out _ (C2.out.2.2.ks.kc r hr)).mono ?_
           rintro e w5 ⟨rfl, hg5, b5⟩
           have c5 := C2.out.2.2.blw b5
           obtain ⟨s5a, s5b⟩ := (SeesW.of c5 hr).cells
           have B5a : Blw w5 (w5.alloc (.cells #[.string y, .int .i64 r, .int .i64 q, .slice (some ⟨W2.heap.size, 0, none⟩) t.n t.n] 104)) := (Blw.rfl w5).al _
           have c5a := c5.blw B5a
           have q5 := (SeesW.of c5 hr).c5 HEV.out
           have q5a := (SeesW.of c5a hr).c5 HEV.out
           obtain ⟨s5c, s5d⟩ := (SeesW.of c5a hr).cells
           have C5 := hid (And.intro c5a (And.intro (And.intro hg5 b5) B5a))
           have H5n := hid (heap_alloc_new w5 (.cells #[.string y, .int .i64 r, .int .i64 q, .slice (some ⟨W2.heap.size, 0, none⟩) t.n t.n] 104))
           clear c5 b5 hg5 B5a c5a
           go_wp2_with fail))
    all_goals
      go_wp2_with fail
      go_meet
      case rel =>
        have b5 : Blw W2 (w5.alloc (.cells #[.string y, .int .i64 r, .int .i64 q, .slice (some ⟨W2.heap.size, 0, none⟩) t.n t.n] 104)) := ((Blw.rfl W2).dr.tr C5.out.2.1.2).tr C5.out.2.2
        have M1 : Moved W2 (w5.alloc (.cells #[.string y, .int .i64 r, .int .i64 q, .slice (some ⟨W2.heap.size, 0, none⟩) t.n t.n] 104)) m m { t with said := l, err := 0 } := ⟨C5.out.1, b5.kp _, fun k hk => .inl hk, rfl, fun k hk => hk⟩
        have hfz : FrzV m.own (w5.alloc (.cells #[.string y, .int .i64 r, .int .i64 q, .slice (some ⟨W2.heap.size, 0, none⟩) t.n t.n] 104)) t.n (.slice (some ⟨W2.heap.size, 0, none⟩) t.n t.n) (t.K r) :=
          ⟨W2.heap.size, rfl, fun hown => Nat.lt_irrefl _ (C2.out.1.lim _ hown), C5.out.2.2.bk' C5.out.2.1.1⟩
        have hgo := G6.out.1
        have ec : [.string y, .int .i64 r, .int .i64 q, .slice (some ⟨W2.heap.size, 0, none⟩) t.n t.n] = mailC ⟨l, r, q, t.K r⟩ (.slice (some ⟨W2.heap.size, 0, none⟩) t.n t.n) := by rw [HL.out.2]; rfl
        rw [ec] at hgo
        exact ⟨_, M1.tr (ClAt.wi_push C5.out.1 G6.out.2.1 hfz hgo (G6.out.2.2.imp id (fun e => by rw [e]; simp)))⟩
  case rest =>
    obtain ⟨m6, M6⟩ := hcut
    have FIN : Hid (F wc) := by
      show F _
      rw [HF.out]
      have e : t.ship r q = { t with said := l, err := 0, wire := t.wire ++ [⟨l, r, q, t.K r⟩] } := by unfold CS.ship; rw [if_neg hne, if_neg HHH.out, ← HL.out.1]
      rw [e]
      have M0 : Moved w W2 m m { t with said := l, err := 0 } := ⟨C2.out.1, C2.out.2.1, fun k hk => .inl hk, rfl, fun k hk => hk⟩
      exact ⟨m6, M0.tr M6⟩
    clear M6
    go_wp2
    go_ret
    exact ⟨rfl, FIN.out⟩
end Go.Proofs.YtalaldfgjgpacaaGreatDoor
