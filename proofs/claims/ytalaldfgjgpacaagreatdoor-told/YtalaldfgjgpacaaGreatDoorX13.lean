import Derived.Test.YtalaldfgjgpacaaGreatDoorHBA
namespace Go.Proofs.YtalaldfgjgpacaaGreatDoor
set_option linter.unusedVariables false
set_option linter.unusedSimpArgs false
open Go.RowKit
attribute [local go_sem ↓] Go.wp_at_zero Go.wp_at_succ

/-- What is known of a message ahead of Take. -/
structure TakePre (w : World) (m : CM) (t : CS) (r f q c : Nat) (kd : UInt8) (D : Pc) : Prop where
  cl : ClAt w m t
  hr : r < t.n
  hf : f < t.n
  hq : q < t.n
  hc : c < 100
  hkd : kd = 73 ∨ kd = 70
  hx : (t.x r).small
  hok : (t.p r).ok
  hD : D.fine
  iD : D.inb
  lg : t.lg = (t.x r).log
  st : t.st = stL (t.p r) t.n
  said : t.said = []

set_option maxRecDepth 100000 in
set_option maxHeartbeats 4000000 in
/-- A message that goes to another one. -/
theorem take_other {w : World} {m : CM} {t : CS} {r f q c : Nat} {kd : UInt8} {D : Pc} {u : Value} (H : TakePre w m t r f q c kd D) (hqr : q ≠ r) :
    Calls Tryz.prog 66 #[.pointer (some ⟨m.cb, 0, none⟩), .int .i64 r, .agg (mailA (headL kd f q c ++ D.text) f q u)] w fun e w' => e = .returned (.bool true) ∧ ∃ m', Moved w w' m m' { t with err := 6 } := by
  have h := H.cl
  have hr := H.hr
  have hf := H.hf
  have hq := H.hq
  have hn3 := h.n3
  obtain ⟨F, hF⟩ : ∃ F : World → Prop, F = fun w' => ∃ m', Moved w w' m m' { t with err := 6 } := ⟨_, rfl⟩
  rw [show (fun e w' => e = Ending.returned (.bool true) ∧ ∃ m', Moved w w' m m' { t with err := 6 }) = fun e w' => e = Ending.returned (.bool true) ∧ F w' by rw [hF]]
  have HF := hid hF
  obtain ⟨y, hy⟩ : ∃ y : ByteArray, y = ⟨(headL kd f q c ++ D.text).toArray⟩ := ⟨_, rfl⟩
  obtain ⟨W0, hW0⟩ : ∃ W0, W0 = w.alloc (.cells #[.string y, .int .i64 f, .int .i64 q, u] 104) := ⟨_, rfl⟩
  have B0 : Blw w W0 := by rw [hW0]; exact (Blw.rfl w).al _
  have h0 := h.blw B0
  have hm0 : W0.heap[w.heap.size]? = some (.cells #[.string y, .int .i64 f, .int .i64 q, u] 104) := by rw [hW0]; exact hp_new w _
  have f0 : W0.cell? ⟨w.heap.size, 0, none⟩ = some (.string y) := by rw [blk_cell hm0]; rfl
  have u2 : W0.cell? ⟨m.cb, 2, none⟩ = some (.slice (some ⟨m.xb, 0, none⟩) t.n m.cx) := by rw [h0.cell]; rfl
  have ux := h0.x0 hr
  have hfm : forMe r t.n f q = false := by simp [forMe, hqr]
  have HAK := hid (take_head (m.b r) r t.n f q c kd (t.p r) D (t.x r) 6 [] (t.p r) (t.x r) W0 H.hkd (by omega) (by omega) H.hc hn3 hr H.hx h0.tab H.hD H.iD (h0.xs.rep r hr)
    ⟨(fun e => by cases e), fun _ _ => ⟨rfl, rfl, rfl, rfl⟩, (fun _ e => by rw [hfm] at e; cases e), (fun _ e => by rw [hfm] at e; cases e), (fun _ e => by rw [hfm] at e; cases e)⟩)
  rw [← hy] at HAK
  have HY := hid hy
  have H0 := hid (And.intro h0 (And.intro B0 hm0))
  have HW0 := hid hW0
  have HH := hid H
  have hbs : m.b r ≠ w.heap.size := Nat.ne_of_lt (lt_of_blk (h.xs.rep r hr))
  have hcs' : m.cb ≠ w.heap.size := Nat.ne_of_lt h.lt
  rw [hW0] at f0 u2 ux
  clear hF hy hW0 B0 h0 hm0 H h hfm
  rw [show mailA (headL kd f q c ++ D.text) f q u = #[.string y, .int .i64 f, .int .i64 q, u] by rw [HY.out]; rfl]
  go_enter Tryz.func66, Tryz.ntmps66
  go_wp2_with fail
  rw [← HW0.out]
  refine HAK.out.mono ?_
  rintro e w1 ⟨rfl, rep1, bx1⟩
  have c1 := H0.out.1.rep_to hr bx1 rep1
  change ClAt w1 m { t with p := upd t.p r (t.p r), x := upd t.x r (t.x r) } at c1
  rw [upd_self, upd_self] at c1
  have hm1 := bx1.keep H0.out.2.2 (Ne.symm hbs)
  have v9 : w1.cell? ⟨m.cb, 9, none⟩ = some (.string ⟨t.said.toArray⟩) := by rw [c1.cell]; rfl
  have v10 : w1.cell? ⟨m.cb, 10, none⟩ = some (.int .i64 t.err) := by rw [c1.cell]; rfl
  have vf := c1.fz
  have g1 : w1.cell? ⟨w.heap.size, 2, none⟩ = some (.int .i64 q) := by rw [blk_cell hm1]; rfl
  obtain ⟨c2, b2⟩ := notedSE_cl c1 [] 6
  obtain ⟨W2, hW2⟩ : ∃ W2, W2 = notedSE w1 m [] 6 := ⟨_, rfl⟩
  rw [← hW2] at c2 b2
  have HW2 : Hid (W2 = (w1.setCell ⟨m.cb, 9, none⟩ (.string ⟨([] : Bs).toArray⟩)).setCell ⟨m.cb, 10, none⟩ (.int .i64 6)) := hW2
  have HST := hid (still_cl c2 hr HH.out.hok)
  have C2 := hid (And.intro c2 (((H0.out.2.1.kp m.own).tr (bx1.kp (H0.out.1.xs.ob r hr))).tr (b2.kp c1.oc)))
  have hb : ((q : Int) == (r : Int)) = false := by simp; omega
  clear c1 c2 b2 bx1 rep1 hW2 hm1 u2 ux f0
  go_wp2_with fail
  rw [← HW2.out]
  refine HST.out.mono ?_
  rintro e w3 ⟨he, b3⟩
  have he2 : e = .returned (.bool true) := by
    rw [he]
    show Ending.returned (.bool (((t.x r).log == t.lg) && (stL (t.p r) t.n == t.st))) = _
    rw [HH.out.lg, HH.out.st]
    simp
  clear he
  subst he2
  have FIN : Hid (F w3) := by
    show F _
    rw [HF.out]
    have e1 : ({ t with err := 6 } : CS) = { t with said := [], err := 6 } := by rw [← HH.out.said]
    rw [e1]
    exact ⟨m, C2.out.1.blw b3, C2.out.2.tr (b3.kp _), fun k hk => .inl hk, rfl, fun k hk => hk⟩
  clear b3 v10 vf v9
  go_wp2
  go_ret
  exact ⟨rfl, FIN.out⟩

/-- What is known behind so many. -/
def supTo (K U : Vec) (i : Nat) : Vec := fun w => if w < i then max (K w) (U w) else K w
theorem supTo_zero (K U : Vec) : supTo K U 0 = K := by funext w; unfold supTo; rw [if_neg (by omega)]
theorem supTo_all {K U : Vec} {n : Nat} (h : ∀ w, n ≤ w → U w = 0) : supTo K U n = Vec.sup K U := by
  funext w
  unfold supTo Vec.sup
  by_cases c : w < n
  · rw [if_pos c]
  · rw [if_neg c, h w (by omega)]; omega
theorem supTo_yes (K U : Vec) (i : Nat) (h : K i < U i) : upd (supTo K U i) i (U i) = supTo K U (i + 1) := by
  funext w
  unfold upd supTo
  by_cases c : w = i
  · rw [if_pos c, if_pos (by omega), c]; omega
  · rw [if_neg c]
    by_cases d : w < i
    · rw [if_pos d, if_pos (by omega)]
    · rw [if_neg d, if_neg (by omega)]
theorem supTo_no (K U : Vec) (i : Nat) (h : ¬ K i < U i) : supTo K U i = supTo K U (i + 1) := by
  funext w
  unfold supTo
  by_cases c : w < i
  · rw [if_pos c, if_pos (by omega)]
  · rw [if_neg c]
    by_cases d : w = i
    · rw [if_pos (by omega), d]; omega
    · rw [if_neg (by omega)]
theorem supTo_at (K U : Vec) (i : Nat) : supTo K U i i = K i := by unfold supTo; rw [if_neg (by omega)]

/-- A message's letter in a block of its own, and what its sender knew. -/
structure LetAt (W : World) (own : Nat → Prop) (ob n f q : Nat) (y : ByteArray) (kg : Nat) (U : Vec) : Prop where
  blk : W.heap[ob]? = some (.cells #[.string y, .int .i64 f, .int .i64 q, .slice (some ⟨kg, 0, none⟩) n n] 104)
  kn : W.heap[kg]? = some (.cells (intsV (vecL n U)) 3)
  no : ¬ own ob
  nk : ¬ own kg
theorem LetAt.kp {W W' : World} {own : Nat → Prop} {ob n f q : Nat} {y : ByteArray} {kg : Nat} {U : Vec} (h : LetAt W own ob n f q y kg U) (k : Kp own W W') : LetAt W' own ob n f q y kg U :=
  ⟨k.keep h.blk h.no, k.keep h.kn h.nk, h.no, h.nk⟩

/-- What a message that comes makes. -/
def tookS (t : CS) (r f c : Nat) (P : Pc) (X : Ext) (U : Vec) : CS := { t with said := headL 65 r f c, err := 0, p := upd t.p r P, x := upd t.x r X, K := upd t.K r (Vec.sup (t.K r) U), acks := t.acks ++ [⟨headL 65 r f c, r, f, Vec.zero⟩] }

/-- On the way through what the sender knew. -/
structure TakeRel (W2 : World) (m : CM) (t : CS) (r f ob : Nat) (y : ByteArray) (kg : Nat) (an : Bs) (P : Pc) (X : Ext) (U : Vec) (k : Nat) (wr : World) : Prop where
  cl : ClAt wr m { t with said := an, err := 0, p := upd t.p r P, x := upd t.x r X, K := upd t.K r (supTo (t.K r) U k) }
  kp : Kp m.own W2 wr
  le : LetAt wr m.own ob t.n f r y kg U
theorem TakeRel.start {W2 : World} {m : CM} {t : CS} {r f ob : Nat} {y : ByteArray} {kg : Nat} {an : Bs} {P : Pc} {X : Ext} {U : Vec} (h : ClAt W2 m { t with said := an, err := 0, p := upd t.p r P, x := upd t.x r X }) (l : LetAt W2 m.own ob t.n f r y kg U) : TakeRel W2 m t r f ob y kg an P X U 0 W2 := by
  refine ⟨?_, Kp.rfl _ _, l⟩
  rw [supTo_zero, upd_self]; exact h
theorem TakeRel.no {W2 wr : World} {m : CM} {t : CS} {r f ob : Nat} {y : ByteArray} {kg : Nat} {an : Bs} {P : Pc} {X : Ext} {U : Vec} {k : Nat} (h : TakeRel W2 m t r f ob y kg an P X U k wr) (hk : ¬ t.K r k < U k) : TakeRel W2 m t r f ob y kg an P X U (k + 1) wr.drew := by
  refine ⟨?_, h.kp.tr ((Blw.dr (Blw.rfl _)).kp _), h.le.kp ((Blw.dr (Blw.rfl _)).kp _)⟩
  rw [← supTo_no _ _ _ hk]
  exact h.cl.blw (Blw.dr (Blw.rfl _))
theorem TakeRel.yes {W2 wr : World} {m : CM} {t : CS} {r f ob : Nat} {y : ByteArray} {kg : Nat} {an : Bs} {P : Pc} {X : Ext} {U : Vec} {k : Nat} (h : TakeRel W2 m t r f ob y kg an P X U k wr) (hr : r < t.n) (hkn : k < t.n) (hk : t.K r k < U k) : TakeRel W2 m t r f ob y kg an P X U (k + 1) ((wr.drew.setCell ⟨m.g r, k, none⟩ (.int .i64 (U k))).drew) := by
  have c0 := h.cl.blw (Blw.dr (Blw.rfl wr))
  have hb : Bx (m.g r) wr.drew (wr.drew.setCell ⟨m.g r, k, none⟩ (.int .i64 (U k))) := (Bx.rfl _ _).scs k [_]
  have hv : (wr.drew.setCell ⟨m.g r, k, none⟩ (.int .i64 (U k))).heap[m.g r]? = some (.cells (intsV (vecL t.n (supTo (t.K r) U (k + 1)))) 3) := by
    rw [heap_setCell_self (c0.ks.kc r hr)]
    show some (Obj.cells ((intsV (vecL t.n (upd t.K r (supTo (t.K r) U k) r))).setIfInBounds k (.int .i64 (U k))) 3) = _
    rw [upd_at, vecL_set t.n _ k (U k) hkn, supTo_yes _ _ _ hk]
  have c1 := (c0.vec_to hr hb hv).blw (Blw.dr (Blw.rfl _))
  have kq : Kp m.own wr ((wr.drew.setCell ⟨m.g r, k, none⟩ (.int .i64 (U k))).drew) := ((Blw.dr (Blw.rfl wr)).kp _).tr ((hb.kp (c0.ks.og r hr)).tr ((Blw.dr (Blw.rfl _)).kp _))
  refine ⟨?_, h.kp.tr kq, h.le.kp kq⟩
  change ClAt _ m { t with said := an, err := 0, p := upd t.p r P, x := upd t.x r X, K := upd (upd t.K r (supTo (t.K r) U k)) r (supTo (t.K r) U (k + 1)) } at c1
  rw [upd_upd] at c1
  exact c1
theorem TakeRel.cells {W2 wr : World} {m : CM} {t : CS} {r f ob : Nat} {y : ByteArray} {kg : Nat} {an : Bs} {P : Pc} {X : Ext} {U : Vec} {k : Nat} (h : TakeRel W2 m t r f ob y kg an P X U k wr) (hr : r < t.n) (hk : k < t.n) :
    wr.cell? ⟨m.cb, 3, none⟩ = some (.slice (some ⟨m.kb, 0, none⟩) t.n m.ck) ∧ wr.cell? ⟨m.kb, r, none⟩ = some (.slice (some ⟨m.g r, 0, none⟩) t.n t.n) ∧ wr.cell? ⟨m.g r, k, none⟩ = some (.int .i64 (t.K r k)) ∧ wr.cell? ⟨ob, 3, none⟩ = some (.slice (some ⟨kg, 0, none⟩) t.n t.n) ∧ wr.cell? ⟨kg, k, none⟩ = some (.int .i64 (U k)) := by
  refine ⟨by rw [h.cl.cell]; rfl, h.cl.k0 hr, ?_, by rw [blk_cell h.le.blk]; rfl, by rw [blk_cell h.le.kn]; exact vecL_at _ hk⟩
  rw [h.cl.g0 hr hk]
  show some (Value.int .i64 (upd t.K r (supTo (t.K r) U k) r k)) = _
  rw [upd_at, supTo_at]

theorem grown_let {w1 w2 : World} {m : CM} {t : CS} {ob n f q : Nat} {y : ByteArray} {kg : Nat} {U : Vec} (h : ClAt w1 m t) (l : LetAt w1 m.own ob n f q y kg U) (hg : w1.grownBy w2 m.av.ownBlock) :
    w2.cell? ⟨ob, 1, none⟩ = some (.int .i64 f) ∧ (∀ v, (w2.setCell ⟨m.cb, 6, none⟩ v).cell? ⟨ob, 1, none⟩ = some (.int .i64 f)) ∧ (∀ k, w2.frozen? ⟨m.cb, k, none⟩ = false) ∧ ∀ x, m.av = x → w2.cell? ⟨m.cb, 6, none⟩ = some x := by
  have k1 := grown_kp hg h.ak.b
  have l2 := l.kp k1
  have hrow2 : w2.heap[m.cb]? = some (.cells (rowA m t) 38) := (hg.block m.cb (lt_of_blk h.row) (fun c => row_ne h.ak.o h.row (by decide) c.symm)).trans h.row
  refine ⟨by rw [blk_cell l2.blk]; rfl, fun v => ?_, fun k => blk_frozen hrow2 k, fun x hx => by rw [blk_cell hrow2, ← hx]; rfl⟩
  have hb : Bx m.cb w2 (w2.setCell ⟨m.cb, 6, none⟩ v) := (Bx.rfl m.cb w2).scs 6 [v]
  rw [blk_cell (hb.keep l2.blk (ne_ty l2.blk hrow2 (by decide)))]; rfl

set_option maxRecDepth 100000 in
set_option maxHeartbeats 8000000 in
theorem take_mine {w : World} {m : CM} {t : CS} {r f c : Nat} {kd : UInt8} {D : Pc} {u : Value} {U : Vec} (H : TakePre w m t r f r c kd D) (hfr : f ≠ r) (hu : FrzV m.own w t.n u U) (hU : ∀ w, t.n ≤ w → U w = 0) (hce : checkE t.n (t.p r) D = 0) (hal : t.acks.length ≤ 10000000) (P : Pc) (X : Ext)
    (hP : P = if (t.p r).dots < ((t.p r).join D).dots then (t.p r).join D else t.p r) (hX : X = if (t.p r).dots < ((t.p r).join D).dots then (t.x r).next D else t.x r) :
    Calls Tryz.prog 66 #[.pointer (some ⟨m.cb, 0, none⟩), .int .i64 r, .agg (mailA (headL kd f r c ++ D.text) f r u)] w fun e w' => e = .returned (.bool true) ∧ ∃ m', Moved w w' m m' (tookS t r f c P X U) := by
  have h := H.cl
  have hr := H.hr
  have hf := H.hf
  have hn3 := h.n3
  obtain ⟨kg, rfl, hkg1, hkg2⟩ := hu
  obtain ⟨F, hF⟩ : ∃ F : World → Prop, F = fun w' => ∃ m', Moved w w' m m' (tookS t r f c P X U) := ⟨_, rfl⟩
  rw [show (fun e w' => e = Ending.returned (.bool true) ∧ ∃ m', Moved w w' m m' (tookS t r f c P X U)) = fun e w' => e = Ending.returned (.bool true) ∧ F w' by rw [hF]]
  have HF := hid hF
  obtain ⟨y, hy⟩ : ∃ y : ByteArray, y = ⟨(headL kd f r c ++ D.text).toArray⟩ := ⟨_, rfl⟩
  obtain ⟨W0, hW0⟩ : ∃ W0, W0 = w.alloc (.cells #[.string y, .int .i64 f, .int .i64 r, .slice (some ⟨kg, 0, none⟩) t.n t.n] 104) := ⟨_, rfl⟩
  have B0 : Blw w W0 := by rw [hW0]; exact (Blw.rfl w).al _
  have h0 := h.blw B0
  have hm0 : W0.heap[w.heap.size]? = some (.cells #[.string y, .int .i64 f, .int .i64 r, .slice (some ⟨kg, 0, none⟩) t.n t.n] 104) := by rw [hW0]; exact hp_new w _
  have l0 : LetAt W0 m.own w.heap.size t.n f r y kg U := ⟨hm0, B0.bk' hkg2, fun e => Nat.lt_irrefl _ (h.lim _ e), hkg1⟩
  have f0 : W0.cell? ⟨w.heap.size, 0, none⟩ = some (.string y) := by rw [blk_cell hm0]; rfl
  have u2 : W0.cell? ⟨m.cb, 2, none⟩ = some (.slice (some ⟨m.xb, 0, none⟩) t.n m.cx) := by rw [h0.cell]; rfl
  have ux := h0.x0 hr
  have hfm : forMe r t.n f r = true := by simp [forMe, hfr, hf]
  have HAK := hid (take_head (m.b r) r t.n f r c kd (t.p r) D (t.x r) 0 (headL 65 r f c) P X W0 H.hkd (by omega) (by omega) H.hc hn3 hr H.hx h0.tab H.hD H.iD (h0.xs.rep r hr)
    ⟨(fun e => by cases e), (fun _ e => by rw [hfm] at e; cases e), (fun _ _ e => absurd hce e), (fun _ _ _ e => by
      have e' := of_decide_eq_false e
      exact ⟨rfl, rfl, by rw [hP, if_neg e'], by rw [hX, if_neg e']⟩), (fun _ _ _ e => by
      have e' := of_decide_eq_true e
      exact ⟨rfl, rfl, by rw [hP, if_pos e'], by rw [hX, if_pos e']⟩)⟩)
  rw [← hy] at HAK
  have HY := hid hy
  have H0 := hid (And.intro h0 (And.intro B0 l0))
  have HW0 := hid hW0
  have HH := hid H
  have HU := hid hU
  have hcs' : m.cb ≠ w.heap.size := Nat.ne_of_lt h.lt
  rw [hW0] at f0 u2 ux
  clear hF hy hW0 B0 h0 hm0 H h hfm l0 hkg1 hkg2 hP hX hce hU
  rw [show mailA (headL kd f r c ++ D.text) f r (.slice (some ⟨kg, 0, none⟩) t.n t.n) = #[.string y, .int .i64 f, .int .i64 r, .slice (some ⟨kg, 0, none⟩) t.n t.n] by rw [HY.out]; rfl]
  obtain ⟨an, han⟩ : ∃ an, an = headL 65 r f c := ⟨_, rfl⟩
  rw [← han] at HAK
  have HAN := hid han
  clear han
  go_enter Tryz.func66, Tryz.ntmps66
  go_wp2_with fail
  rw [← HW0.out]
  refine HAK.out.mono ?_
  rintro e w1 ⟨rfl, rep1, bx1⟩
  have c1 := H0.out.1.rep_to hr bx1 rep1
  have l1 := H0.out.2.2.kp (bx1.kp (H0.out.1.xs.ob r hr))
  have v9 : w1.cell? ⟨m.cb, 9, none⟩ = some (.string ⟨t.said.toArray⟩) := by rw [c1.cell]; rfl
  have v10 : w1.cell? ⟨m.cb, 10, none⟩ = some (.int .i64 t.err) := by rw [c1.cell]; rfl
  have vf := c1.fz
  have g1 : w1.cell? ⟨w.heap.size, 2, none⟩ = some (.int .i64 r) := by rw [blk_cell l1.blk]; rfl
  obtain ⟨c2, b2⟩ := notedSE_cl c1 an 0
  obtain ⟨W2, hW2⟩ : ∃ W2, W2 = notedSE w1 m an 0 := ⟨_, rfl⟩
  rw [← hW2] at c2 b2
  have l2 := l1.kp (b2.kp c1.oc)
  have HW2 : Hid (W2 = (w1.setCell ⟨m.cb, 9, none⟩ (.string ⟨an.toArray⟩)).setCell ⟨m.cb, 10, none⟩ (.int .i64 0)) := hW2
  have C2 := hid (And.intro c2 (And.intro (((H0.out.2.1.kp m.own).tr (bx1.kp (H0.out.1.xs.ob r hr))).tr (b2.kp c1.oc)) l2))
  clear c1 c2 b2 bx1 rep1 hW2 u2 ux f0 l1 l2
  go_wp2_with fail
  rw [← HW2.out]
  have hr0 : (0 : Int) ≤ (r : Int) := Int.natCast_nonneg _
  have hr1 : (r : Int) < (t.n : Int) := by omega
  go_loopw [11] (fun i wr => ∃ k : Nat, k ≤ t.n ∧ i = .int .i64 k ∧ TakeRel W2 m t r f w.heap.size y kg an P X U k wr) (fun i _ => t.n - (intOf i).toNat)
  case atStart => exact ⟨0, by omega, rfl, TakeRel.start C2.out.1 C2.out.2.2⟩
  case round =>
    obtain ⟨k, hk, rfl, hR⟩ := hrel
    have HR := hid hR
    have z0 : wr.cell? ⟨m.cb, 0, none⟩ = some (.int .i64 t.n) := by rw [hR.cl.cell]; rfl
    clear hR v9 v10 vf g1
    by_cases hlt : k < t.n
    · obtain ⟨z3, zk, zg, zm, zu⟩ := HR.out.cells hr hlt
      have zf : wr.frozen? ⟨m.g r, k, none⟩ = false := blk_frozen (HR.out.cl.ks.kc r hr) k
      have hk0 : (0 : Int) ≤ (k : Int) := Int.natCast_nonneg _
      have hk1 : (k : Int) < (t.n : Int) := by omega
      by_cases hgt : t.K r k < U k
      · have HN := hid (HR.out.yes hr hlt hgt)
        obtain ⟨a, ha⟩ : ∃ a, a = t.K r k := ⟨_, rfl⟩
        obtain ⟨b, hb⟩ : ∃ b, b = U k := ⟨_, rfl⟩
        rw [← ha] at zg hgt
        rw [← hb] at zu hgt
        have HAB := hid (And.intro ha hb)
        have hab : decide ((a : Int) < (b : Int)) = true := by simp; omega
        clear ha hb
        go_wp2
        go_region
        go_wp2
        go_big_region
        go_wp2
        go_roundw
        case rel => exact ⟨k + 1, by omega, by go_num, by rw [HAB.out.2]; exact HN.out⟩
        case measure => simp [intOf]; omega
      · have HN := hid (HR.out.no hgt)
        obtain ⟨a, ha⟩ : ∃ a, a = t.K r k := ⟨_, rfl⟩
        obtain ⟨b, hb⟩ : ∃ b, b = U k := ⟨_, rfl⟩
        rw [← ha] at zg hgt
        rw [← hb] at zu hgt
        have hab : decide ((a : Int) < (b : Int)) = false := by simp; omega
        clear ha hb
        go_wp2
        go_region
        go_wp2
        go_roundw
        case rel => exact ⟨k + 1, by omega, by go_num, HN.out⟩
        case measure => simp [intOf]; omega
    · have hkn : k = t.n := by omega
      subst hkn
      have c4 := HR.out.cl
      have l4 := HR.out.le
      have c4d := c4.blw (Blw.dr (Blw.rfl wr))
      have l4d := l4.kp ((Blw.dr (Blw.rfl wr)).kp _)
      obtain ⟨ea, ec, hev', hevl⟩ := ownsRow_form c4d.ak.o
      have HEV := hid (show m.av = .slice ea t.acks.length ec from hev')
      have S4 : Hid (wr.drew.cell? ⟨w.heap.size, 1, none⟩ = some (.int .i64 f)) := by show wr.drew.cell? _ = _; rw [blk_cell l4d.blk]; rfl
      have q4 : wr.drew.cell? ⟨m.cb, 6, none⟩ = some (.slice ea t.acks.length ec) := by rw [c4d.cell, ← HEV.out]; rfl
      have B5a : Blw wr.drew (wr.drew.alloc (.cells #[.string ⟨an.toArray⟩, .int .i64 r, .int .i64 f, .slice none 0 0] 104)) := (Blw.rfl _).al _
      have c5a := c4d.blw B5a
      have l5a := l4d.kp (B5a.kp _)
      have S5a : Hid ((wr.drew.alloc (.cells #[.string ⟨an.toArray⟩, .int .i64 r, .int .i64 f, .slice none 0 0] 104)).cell? ⟨w.heap.size, 1, none⟩ = some (.int .i64 f)) := by show World.cell? _ _ = _; rw [blk_cell l5a.blk]; rfl
      have q5a : (wr.drew.alloc (.cells #[.string ⟨an.toArray⟩, .int .i64 r, .int .i64 f, .slice none 0 0] 104)).cell? ⟨m.cb, 6, none⟩ = some (.slice ea t.acks.length ec) := by rw [c5a.cell, ← HEV.out]; rfl
      have q5b : (wr.alloc (.cells #[.string ⟨an.toArray⟩, .int .i64 r, .int .i64 f, .slice none 0 0] 104)).drew.cell? ⟨m.cb, 6, none⟩ = some (.slice ea t.acks.length ec) := q5a
      have q5c : (wr.alloc (.cells #[.string ⟨an.toArray⟩, .int .i64 r, .int .i64 f, .slice none 0 0] 104)).cell? ⟨m.cb, 6, none⟩ = some (.slice ea t.acks.length ec) := q5a
      have H5n := hid (heap_alloc_new wr.drew (.cells #[.string ⟨an.toArray⟩, .int .i64 r, .int .i64 f, .slice none 0 0] 104))
      have C5 := hid (And.intro c5a (And.intro l5a B5a))
      obtain ⟨i0, hi0', hz0, hz1, hz2⟩ := info_parts infoMail
      clear c4 l4 c4d l4d hev' B5a c5a l5a
      go_wp2_with fail
      go_cut [] (fun wx => F wx)
      case first =>
        have s4 := S4.out
        have s5 := S5a.out
        have s5b : (wr.alloc (.cells #[.string ⟨an.toArray⟩, .int .i64 r, .int .i64 f, .slice none 0 0] 104)).drew.cell? ⟨w.heap.size, 1, none⟩ = some (.int .i64 f) := s5
        go_region_law (first
            | ((refine step_append_lies _ (by rfl) _ _ _ (by rfl) 0 104 i0 _ 4 56 Tryz.underlying33 hi0' hz0 hz1 hz2 rfl (by omega) m.av t.acks.length (flatC m.af t.acks.length) (by rw [HEV.out]; rfl) C5.out.1.ak.o ⟨wr.heap.size, 0, none⟩ 1 1 [.string ⟨an.toArray⟩, .int .i64 r, .int .i64 f, .slice none 0 0] (by rfl) (by rfl) (World.news_of_block (t := 104) (fr := (0, 0)) H5n.out) (by simp [Value.oneCell']) (by omega) (by unfold maxLen; omega) (by omega) (by omega) (wr.heap.size + 1) (by simp) ?_; intro g6 cap6 w6 hown6 hgrow6 hat6 hlt6; have S6 : Hid (w6.cell? ⟨w.heap.size, 1, none⟩ = some (.int .i64 f)) := (grown_let C5.out.1 C5.out.2.1 hgrow6).1; have S7 : Hid (∀ v, (w6.setCell ⟨m.cb, 6, none⟩ v).cell? ⟨w.heap.size, 1, none⟩ = some (.int .i64 f)) := (grown_let C5.out.1 C5.out.2.1 hgrow6).2.1; have fz6 := (grown_let C5.out.1 C5.out.2.1 hgrow6).2.2.1; have q6 := (grown_let C5.out.1 C5.out.2.1 hgrow6).2.2.2 _ HEV.out; have G6 := hid (And.intro hown6 (And.intro hgrow6 hat6)); clear hown6 hgrow6 hat6)))
        all_goals
          go_wp2_with fail
          go_meet
          case rel =>
            rw [HF.out]
            have b5 : Blw wr (wr.drew.alloc (.cells #[.string ⟨an.toArray⟩, .int .i64 r, .int .i64 f, .slice none 0 0] 104)) := (Blw.dr (Blw.rfl wr)).tr C5.out.2.2
            have M0 : Moved w (wr.drew.alloc (.cells #[.string ⟨an.toArray⟩, .int .i64 r, .int .i64 f, .slice none 0 0] 104)) m m _ := Moved.mk C5.out.1 ((C2.out.2.1.tr HR.out.kp).tr (b5.kp _)) (fun k hk => Or.inl hk) rfl (fun k hk => hk)
            have hgo := G6.out.1
            have ec : [.string ⟨an.toArray⟩, .int .i64 r, .int .i64 f, .slice none 0 0] = mailC ⟨an, r, f, Vec.zero⟩ (.slice none 0 0) := rfl
            rw [ec] at hgo
            have M1 := M0.tr (ClAt.ak_push C5.out.1 G6.out.2.1 hgo (G6.out.2.2.imp id (fun e => by rw [e]; simp)))
            have key : tookS t r f c P X U = { t with said := an, err := 0, p := upd t.p r P, x := upd t.x r X, K := upd t.K r (supTo (t.K r) U t.n), acks := t.acks ++ [⟨an, r, f, Vec.zero⟩] } := by
              rw [supTo_all HU.out, HAN.out]; rfl
            rw [key]
            exact ⟨_, M1⟩
      case rest =>
        have FIN := hid hcut
        clear hcut
        go_wp2
        go_ret
        exact ⟨rfl, FIN.out⟩
end Go.Proofs.YtalaldfgjgpacaaGreatDoor
