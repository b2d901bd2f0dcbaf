import Derived.Test.YticfcjicndjejaaGreatDoorP9
import Derived.Deep.RegionWith
namespace Go.Proofs.YticfcjicndjejaaGreatDoor
set_option linter.unusedVariables false
set_option linter.unusedSimpArgs false
open Go.RowKit
attribute [local go_sem ↓] Go.wp_at_zero Go.wp_at_succ run_load63 run_store63
attribute [local go_sem] blkOf_mk offOf_mk isPt_mk isRow_pc Has_drew HasW_drew rowOf_drew

theorem log_any (b me n : Nat) (p : Pc) (x : Ext) (w : World) (h : w.heap[b]? = some (.cells (repArr me n p x) 67)) : Calls Tryz.prog 15 #[.pointer (some ⟨b, 0, none⟩)] w fun e w' => e = .returned (.string ⟨x.log.toArray⟩) ∧ w' = w := by
  have c := rep_log h
  clear h
  go_enter Tryz.func15, Tryz.ntmps15
  go_wp2
  go_ret
  exact ⟨rfl, rfl⟩
theorem rlog_any (cb me n : Nat) (p : Pc) (x : Ext) (lt : Value) (w : World) (h : RefAt w cb me n p x lt) : Calls Tryz.prog 50 #[.pointer (some ⟨cb, 0, none⟩)] w fun e w' => e = .returned (.string ⟨x.log.toArray⟩) ∧ w' = w := by
  obtain ⟨a, b, ac, D, E, ln, ls, h1, _⟩ := h.h
  have c := (ref_n h1).2.2.2.2.2.2.2
  clear h h1
  go_enter Tryz.func50, Tryz.ntmps50
  go_wp2
  go_ret
  exact ⟨rfl, rfl⟩

/-- What Compact makes of what stands beside. -/
def Ext.compact (x : Ext) (p : Pc) : Ext := ⟨x.had, frameL ([83] ++ lastD x.had 2 ++ p.text)⟩

set_option maxRecDepth 100000 in
set_option maxHeartbeats 2000000 in
theorem compact_any (b me n : Nat) (p : Pc) (x : Ext) (w : World) (hp : p.ok) (hh : x.had < 100) (ht : Tab Tryz.prog w) (h : w.heap[b]? = some (.cells (repArr me n p x) 67)) :
    Calls Tryz.prog 51 #[.pointer (some ⟨b, 0, none⟩)] w fun e w' => e = .returned (.tuple #[]) ∧ RepTo b me n p (x.compact p) w w' := by
  have H := hid h
  have TB := hid ht
  have hrow := rowOf_rep h
  have hhas := Has_rep h
  have c1 := rep_had h
  have HF := hid (fun wx hw => wholeFrame_any x.had p hp wx hh hw)
  have HN : Hid (x.compact p = ⟨x.had, frameL ([83] ++ lastD x.had 2 ++ p.text)⟩) := rfl
  generalize frameL ([83] ++ lastD x.had 2 ++ p.text) = fr at *
  clear h ht hp
  go_enter Tryz.func51, Tryz.ntmps51
  go_wp2
  go_region_with (first | (go_at_call 100; refine (HF.out _ (TB.out.blw (Blw.dr (Blw.rfl _)))).mono ?_; rintro e w4 ⟨rfl, b4⟩; have c5 := rep_log (b4.bk' (show w.drew.heap[b]? = _ from H.out)); have f5 := blk_frozen (b4.bk' (show w.drew.heap[b]? = _ from H.out)) 138))
  all_goals
    go_end0
    refine ⟨rfl, ?_, ?_⟩
    · rw [HN.out]
      exact rep_put_log (b4.bk' (show w.drew.heap[b]? = _ from H.out)) fr
    · exact (Blw.bx (Blw.tr (Blw.dr (Blw.rfl _)) b4) b).sc _ _

set_option maxRecDepth 100000 in
set_option maxHeartbeats 2000000 in
theorem rcompact_any (cb me n : Nat) (p : Pc) (x : Ext) (lt : Value) (w : World) (hp : p.fine) (hh : x.had < 100) (h : RefAt w cb me n p x lt) :
    Calls Tryz.prog 52 #[.pointer (some ⟨cb, 0, none⟩)] w fun e w' => e = .returned (.tuple #[]) ∧ RefStep cb me n p (x.compact p) lt w w' := by
  obtain ⟨a, b, ac, D, E, ln, ls, h1, h2, h3, h4, h5, h6⟩ := h.h
  have hP := h6.pcAt hp.ok h2 h3
  have HW := hid (write_any a b D E w hP)
  rw [h6.write hp.ok] at HW
  have htl := text_len' p hp.ok
  have HD3 := hid (fun wx => digits_any (3 + p.text.length) 3 wx (by omega) (by omega))
  have HD2 := hid (fun wx => digits_any x.had 2 wx (by omega) (by omega))
  have HN : Hid (x.compact p = ⟨x.had, lastD (3 + p.text.length) 3 ++ [83] ++ lastD x.had 2 ++ p.text⟩) := by
    show x.compact p = _
    unfold Ext.compact frameL
    have e1 : ([83] ++ lastD x.had 2 ++ p.text).length = 3 + p.text.length := by simp only [List.length_append, lastD_len, List.length_singleton]
    rw [e1]; simp only [List.append_assoc]
  have hl3 := lastD_len (3 + p.text.length) 3
  have hl2 := lastD_len x.had 2
  have FIN : Hid (∀ (w6 : World) (l : Bs), Blw w w6 → RefStep cb me n p ⟨x.had, l⟩ lt w (w6.setCell ⟨cb, 7, none⟩ (.string ⟨l.toArray⟩))) := by
    intro w6 l hb
    have n6 := hb.bq h1
    refine ⟨⟨lt, ⟨a, b, ac, D, E, ln, ls, ref_put_disk n6 l, (h2.on hb).sc n6 (by decide) _, (h3.on hb).sc n6 (by decide) _, (h4.on hb).sc n6 (by decide) 7 _, h5, h6⟩, .inl rfl⟩, (hb.b2 _).sc cb 7 _ (.inl (.inl rfl))⟩
  have HH := hid h1
  obtain ⟨ao, ca, rfl, _⟩ := h2.op
  obtain ⟨bo, kb, rfl, _⟩ := h3.op
  have c2 := (ref_n h1).2.2.1
  have c3 := (ref_n h1).2.2.2.1
  generalize p.text = tx at *
  generalize lastD (3 + tx.length) 3 = z3 at *
  generalize lastD x.had 2 = z2 at *
  obtain ⟨y1, hy1⟩ : ∃ y1, y1 = z3 ++ [83] := ⟨_, rfl⟩
  obtain ⟨y2, hy2⟩ : ∃ y2, y2 = y1 ++ z2 := ⟨_, rfl⟩
  obtain ⟨y3, hy3⟩ : ∃ y3, y3 = y2 ++ tx := ⟨_, rfl⟩
  have t1 : ByteArray.mk z3.toArray ++ ByteArray.mk #[83] = ByteArray.mk y1.toArray := by rw [hy1]; exact ByteArray.mk_append_mk z3 [83]
  have t2 : ByteArray.mk y1.toArray ++ ByteArray.mk z2.toArray = ByteArray.mk y2.toArray := by rw [hy2]; exact ByteArray.mk_append_mk _ _
  have t3 : ByteArray.mk y2.toArray ++ ByteArray.mk tx.toArray = ByteArray.mk y3.toArray := by rw [hy3]; exact ByteArray.mk_append_mk _ _
  have k1 : y1.length = 4 := by rw [hy1]; simp [hl3]
  have k2 : y2.length = 6 := by rw [hy2]; simp [hl2, k1]
  rw [← hy1, ← hy2, ← hy3] at HN
  clear h h1 h2 h3 h4 h5 h6 hP hp hy1 hy2 hy3
  go_enter Tryz.func52, Tryz.ntmps52
  go_wp2_with fail
  refine HW.out.mono ?_
  rintro e w1 ⟨rfl, b1⟩
  go_wp2_with fail
  refine (HD3.out _).mono ?_
  rintro e w2 ⟨rfl, b2⟩
  have B2 := hid (b1.tr b2)
  have c4 := (ref_n (B2.out.bq HH.out)).2.2.2.2.1
  clear b1 b2 c2 c3
  go_wp2_with fail
  refine (HD2.out _).mono ?_
  rintro e w3 ⟨rfl, b3⟩
  have B3 := hid (B2.out.tr b3)
  have c7 := (ref_n (B3.out.bq HH.out)).2.2.2.2.2.2.2
  have f7 := blk_frozen (B3.out.bq HH.out) 7
  clear b3 c4
  go_wp2
  go_end0
  exact ⟨rfl, by rw [HN.out]; exact FIN.out _ _ B3.out⟩

theorem pstep_of2 {base B : Nat} {d : PD} {w w1 w2 w3 : World} {p' : Pc} {x' : Ext} (h : PairAt base B w d) (hb : base ≤ w.heap.size) (k1 : p'.fine) (k2 : p'.noHole) (k3 : x'.had ≤ d.x.had + 1) (k4 : x'.log.length ≤ d.x.log.length + 400) (k5 : d.x.had ≤ d.p.dots → x'.had ≤ p'.dots)
    (h1 : Blw w w1) (h2 : RepTo d.b d.me d.n p' x' w1 w2) (h3 : RefStep d.cb d.me d.n p' x' d.lt w2 w3) : PStep base (B + 1) d w w3 := by
  obtain ⟨lt', i1, i2⟩ := h3.h
  obtain ⟨Cc, hcc⟩ := h.cb.blk
  have nb : d.b ≠ d.cb := ty_ne h.b hcc (by decide)
  have npb : d.pb ≠ d.b := ty_ne h.pb h.b (by decide)
  have npc : d.pb ≠ d.cb := ty_ne h.pb hcc (by decide)
  have nlb : d.lt.ownBlock ≠ some d.b := fun e => by obtain ⟨_, C, hC⟩ := h.cb.lateBlk e; exact ty_ne hC h.b (by decide) rfl
  have nlp : d.lt.ownBlock ≠ some d.pb := fun e => by obtain ⟨_, C, hC⟩ := h.cb.lateBlk e; exact ty_ne hC h.pb (by decide) rfl
  have s1 := h1.sz
  have s2 := h2.2.size
  have hbw1 : d.b < w1.heap.size := Nat.lt_of_lt_of_le (lt_of_blk h.b) s1
  refine ⟨⟨⟨d.pb, d.b, d.cb, d.me, d.n, p', x', lt'⟩, ⟨?_, ?_, i1, h.me, h.n, k1, k2, ?_, ?_, h.l1, h.l2, ?_, h.l4, k5 h.sz⟩, rfl, rfl, rfl, ?_⟩, ?_⟩
  · have e1 := h1.bk' h.pb
    have e2 := (h2.2.block d.pb (lt_of_blk e1) npb).trans e1
    exact (h3.bs.block d.pb (lt_of_blk e2) (fun e => e.elim npc nlp)).trans e2
  · exact (h3.bs.block d.b (lt_of_blk h2.1) (fun e => e.elim nb nlb)).trans h2.1
  · have := k3; have := h.had; show x'.had ≤ B + 1 + 100; omega
  · have := k4; have := h.log; show x'.log.length ≤ (B + 1 + 10) * 1000; omega
  · intro g hg
    rcases i2 with e | ⟨g', e, hg'⟩
    · exact h.l3 g (by rw [← e]; exact hg)
    · have : g' = g := by have := e.symm.trans hg; simpa using this
      omega
  · rcases i2 with e | ⟨g', e, hg'⟩
    · exact .inl e
    · exact .inr ⟨g', e, by omega⟩
  · refine (h1.b2 _).tr (Bs2.weak (Bs2.tr (h2.2.b2.weak (T := fun i => i = d.b ∨ i = d.cb ∨ d.lt.ownBlock = some i) (fun i hi => .inl hi)) (h3.bs.weak (fun i hi => .inl (.inr hi)))) (fun i hi => .inl hi))


set_option maxRecDepth 100000 in
set_option maxHeartbeats 2000000 in
theorem other8 (base B : Nat) (d : PD) (r t a bb c : Int) (s : ByteArray) (w : World) (h : PairAt base B w d) (hB : B ≤ 100000000) :
    Calls Tryz.prog 21 #[.pointer (some ⟨d.pb, 0, none⟩), .agg (opArr 8 r t a bb c s)] w fun e w' => e = .returned (.bool true) ∧ PStep base (B + 1) d w w' := by
  have BX : Hid (Blw w (w.alloc (.cells (opArr 8 r t a bb c s) 46))) := (Blw.rfl _).al _
  have HP := hid (log_any d.b d.me d.n d.p d.x _ (BX.out.bk' h.b))
  have HQ := hid (rlog_any d.cb d.me d.n d.p d.x d.lt _ (h.cb.on BX.out))
  have hl : d.x.log.length ≤ 1000000000000 := by have := h.log; omega
  generalize d.x.log = lg at *
  have H := hid h
  have c0 : (w.alloc (.cells (opArr 8 r t a bb c s) 46)).cell? ⟨d.pb, 0, none⟩ = some (.pointer (some ⟨d.b, 0, none⟩)) := blk_cell (BX.out.bk' h.pb) 0
  have c1 : (w.alloc (.cells (opArr 8 r t a bb c s) 46)).cell? ⟨d.pb, 1, none⟩ = some (.pointer (some ⟨d.cb, 0, none⟩)) := blk_cell (BX.out.bk' h.pb) 1
  have hst : (lg == lg) = true := by simp
  clear h
  unfold opArr at *
  go_enter Tryz.func21, Tryz.ntmps21
  go_wp2_with fail
  refine HP.out.mono ?_
  rintro e w1 ⟨rfl, hw1⟩
  subst w1
  go_wp2_with fail
  refine HQ.out.mono ?_
  rintro e w1 ⟨rfl, hw1⟩
  subst w1
  go_wp2
  go_ret
  exact ⟨rfl, PStep.same H.out BX.out _ (Nat.le_succ _)⟩

set_option maxRecDepth 100000 in
set_option maxHeartbeats 2000000 in
theorem other9 (base B : Nat) (d : PD) (r t a bb c : Int) (s : ByteArray) (w : World) (h : PairAt base B w d) (hbs : base ≤ w.heap.size) (hB : B ≤ 100000000) (ht : Tab Tryz.prog w) :
    Calls Tryz.prog 21 #[.pointer (some ⟨d.pb, 0, none⟩), .agg (opArr 9 r t a bb c s)] w fun e w' => e = .returned (.bool true) ∧ PStep base (B + 1) d w w' := by
  have BX : Hid (Blw w (w.alloc (.cells (opArr 9 r t a bb c s) 46))) := (Blw.rfl _).al _
  have hh : d.x.had < 100 := by have := h.sz; have := size_le27 d.p; omega
  have HP := hid (compact_any d.b d.me d.n d.p d.x _ h.fine.ok hh (ht.blw BX.out) (BX.out.bk' h.b))
  have HQ := hid (fun wx hx => rcompact_any d.cb d.me d.n d.p d.x d.lt wx h.fine hh hx)
  have hxl : (d.x.compact d.p).log.length ≤ d.x.log.length + 400 := by
    have := text_len' d.p h.fine.ok
    simp only [Ext.compact, frameL_len, List.length_append, lastD_len, List.length_singleton]; omega
  have H := hid h
  have HXL := hid hxl
  have c0 : (w.alloc (.cells (opArr 9 r t a bb c s) 46)).cell? ⟨d.pb, 0, none⟩ = some (.pointer (some ⟨d.b, 0, none⟩)) := blk_cell (BX.out.bk' h.pb) 0
  clear h hxl ht
  unfold opArr at *
  go_enter Tryz.func21, Tryz.ntmps21
  go_wp2_with fail
  refine HP.out.mono ?_
  rintro e w1 ⟨rfl, r1⟩
  have R1 := hid r1
  have e1 : w1.cell? ⟨d.pb, 1, none⟩ = some (.pointer (some ⟨d.cb, 0, none⟩)) := blk_cell ((r1.2.block d.pb (lt_of_blk (BX.out.bk' H.out.pb)) (ty_ne H.out.pb H.out.b (by decide))).trans (BX.out.bk' H.out.pb)) 1
  have HRr := hid (ref_on_rep H.out BX.out r1)
  clear r1 c0
  go_wp2_with fail
  refine (HQ.out _ HRr.out).mono ?_
  rintro e w2 ⟨rfl, r2⟩
  have FN := hid (pstep_of2 (p' := d.p) (x' := d.x.compact d.p) H.out hbs H.out.fine H.out.hole (Nat.le_succ _) HXL.out id BX.out R1.out r2)
  clear r2 e1
  go_wp2
  go_ret
  exact ⟨rfl, FN.out⟩

theorem does9 : Does 9 where
  client o h3 h7 h6 base B d w h hb hB hs ht := does7.client o h3 h7 h7 base B d w h hb hB hs ht
  other o h1 n1 n10 n37 h6 base B d w h hb hB hs ht := by
    by_cases hk : o.kind ≤ 7
    · exact does7.other o h1 n1 n10 n37 hk base B d w h hb hB hs ht
    · obtain ⟨kd, r, t, a, b, c, s⟩ := o
      simp only at h1 n1 n10 n37 h6 hk
      have : kd = 8 ∨ kd = 9 := by omega
      rcases this with rfl | rfl
      · exact other8 base B d r t a b c s w h (by omega)
      · exact other9 base B d r t a b c s w h hb (by omega) ht
  begin o hk h6 base B w hb hB hs ht := does7.begin o hk (by rcases hk with e | e <;> omega) base B w hb hB hs ht
end Go.Proofs.YticfcjicndjejaaGreatDoor
