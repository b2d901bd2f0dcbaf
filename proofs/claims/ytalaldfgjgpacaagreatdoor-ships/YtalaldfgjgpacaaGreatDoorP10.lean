import Derived.Test.YtalaldfgjgpacaaGreatDoorP1
import Derived.Test.YtalaldfgjgpacaaGreatDoorP9
import Derived.Deep.RegionWith
namespace Go.Proofs.YtalaldfgjgpacaaGreatDoor
set_option linter.unusedVariables false
set_option linter.unusedSimpArgs false
open Go.RowKit
attribute [local go_sem ↓] Go.wp_at_zero Go.wp_at_succ run_load63 run_store63
attribute [local go_sem] blkOf_mk offOf_mk isPt_mk isRow_pc Has_drew HasW_drew rowOf_drew

theorem pstep_of2 {base B : Nat} {d : PD} {w w1 w2 w3 : World} {p' : Pc} {x' : Ext} (h : PairAt base B w d) (hb : base ≤ w.heap.size) (k1 : p'.fine) (k2 : p'.noHole) (k3 : x'.had ≤ d.x.had + 1) (k4 : x'.log.length ≤ d.x.log.length + 400) (k5 : Fit d.p d.x → Fit p' x')
    (h1 : Blw w w1) (h2 : RepTo d.b d.me d.n p' x' w1 w2) (h3 : RefStep d.cb d.me d.n p' x' d.lt w2 w3) : PStep base (B + 1) d w w3 := by
  obtain ⟨lt', i1, i2⟩ := h3.h
  obtain ⟨Cc, hcc⟩ := h.cb.blk
  have nb : d.b ≠ d.cb := ty_ne h.b hcc (by decide)
  have npb : d.pb ≠ d.b := ty_ne h.pb h.b (by decide)
  have npc : d.pb ≠ d.cb := ty_ne h.pb hcc (by decide)
  have nlb : d.lt.ownBlock ≠ some d.b := fun e => by obtain ⟨_, C, hC⟩ := h.cb.lateBlk e; exact ty_ne hC h.b (by decide) rfl
  have nlp : d.lt.ownBlock ≠ some d.pb := fun e => by obtain ⟨_, C, hC⟩ := h.cb.lateBlk e; exact ty_ne hC h.pb (by decide) rfl
  have s1 := h1.sz
  have s2 := h2.2.size
  have hbw1 : d.b < w1.heap.size := Nat.lt_of_lt_of_le (lt_of_blk h.b) s1
  refine ⟨⟨⟨d.pb, d.b, d.cb, d.me, d.n, p', x', lt'⟩, ⟨?_, ?_, i1, h.me, h.n, k1, k2, ?_, ?_, h.l1, h.l2, ?_, h.l4, k5 h.sz⟩, rfl, rfl, rfl, ?_⟩, ?_⟩
  · have e1 := h1.bk' h.pb
    have e2 := (h2.2.block d.pb (lt_of_blk e1) npb).trans e1
    exact (h3.bs.block d.pb (lt_of_blk e2) (fun e => e.elim npc nlp)).trans e2
  · exact (h3.bs.block d.b (lt_of_blk h2.1) (fun e => e.elim nb nlb)).trans h2.1
  · have := k3; have := h.had; show x'.had ≤ B + 1 + 100; omega
  · have := k4; have := h.log; show x'.log.length ≤ (B + 1 + 10) * 1000; omega
  · intro g hg
    rcases i2 with e | ⟨g', e, hg'⟩
    · exact h.l3 g (by rw [← e]; exact hg)
    · have : g' = g := by have := e.symm.trans hg; simpa using this
      omega
  · rcases i2 with e | ⟨g', e, hg'⟩
    · exact .inl e
    · exact .inr ⟨g', e, by omega⟩
  · refine (h1.b2 _).tr (Bs2.weak (Bs2.tr (h2.2.b2.weak (T := fun i => i = d.b ∨ i = d.cb ∨ d.lt.ownBlock = some i) (fun i hi => .inl hi)) (h3.bs.weak (fun i hi => .inl (.inr hi)))) (fun i hi => .inl (hi.imp id (fun e => e.imp id .inl))))


set_option maxRecDepth 100000 in
set_option maxHeartbeats 2000000 in
theorem other8 (base B : Nat) (d : PD) (r t a bb c : Int) (s : ByteArray) (w : World) (h : PairAt base B w d) (hB : B ≤ 100000000) :
    Calls Tryz.prog 23 #[.pointer (some ⟨d.pb, 0, none⟩), .agg (opArr 8 r t a bb c s)] w fun e w' => e = .returned (.bool true) ∧ PStep base (B + 1) d w w' := by
  have BX : Hid (Blw w (w.alloc (.cells (opArr 8 r t a bb c s) 46))) := (Blw.rfl _).al _
  have HP := hid (log_any d.b d.me d.n d.p d.x _ (BX.out.bk' h.b))
  have HQ := hid (rlog_any d.cb d.me d.n d.p d.x d.lt _ (h.cb.on BX.out))
  have hl : d.x.log.length ≤ 1000000000000 := by have := h.log; omega
  generalize d.x.log = lg at *
  have H := hid h
  have c0 : (w.alloc (.cells (opArr 8 r t a bb c s) 46)).cell? ⟨d.pb, 0, none⟩ = some (.pointer (some ⟨d.b, 0, none⟩)) := blk_cell (BX.out.bk' h.pb) 0
  have c1 : (w.alloc (.cells (opArr 8 r t a bb c s) 46)).cell? ⟨d.pb, 1, none⟩ = some (.pointer (some ⟨d.cb, 0, none⟩)) := blk_cell (BX.out.bk' h.pb) 1
  have hst : (lg == lg) = true := by simp
  clear h
  unfold opArr at *
  go_enter Tryz.func23, Tryz.ntmps23
  go_wp2_with fail
  refine HP.out.mono ?_
  rintro e w1 ⟨rfl, hw1⟩
  subst w1
  go_wp2_with fail
  refine HQ.out.mono ?_
  rintro e w1 ⟨rfl, hw1⟩
  subst w1
  go_wp2
  go_ret
  exact ⟨rfl, PStep.same H.out BX.out _ (Nat.le_succ _)⟩

set_option maxRecDepth 100000 in
set_option maxHeartbeats 2000000 in
theorem other9 (base B : Nat) (d : PD) (r t a bb c : Int) (s : ByteArray) (w : World) (h : PairAt base B w d) (hbs : base ≤ w.heap.size) (hB : B ≤ 100000000) (ht : Tab Tryz.prog w) :
    Calls Tryz.prog 23 #[.pointer (some ⟨d.pb, 0, none⟩), .agg (opArr 9 r t a bb c s)] w fun e w' => e = .returned (.bool true) ∧ PStep base (B + 1) d w w' := by
  have BX : Hid (Blw w (w.alloc (.cells (opArr 9 r t a bb c s) 46))) := (Blw.rfl _).al _
  have hh : d.x.had < 100 := by have := h.sz.1; have := size_le27 d.p; omega
  have HP := hid (compact_any d.b d.me d.n d.p d.x _ h.fine.ok hh (ht.blw BX.out) (BX.out.bk' h.b))
  have HQ := hid (fun wx hx => rcompact_any d.cb d.me d.n d.p d.x d.lt wx h.fine hh hx)
  have hxl : (d.x.compact d.p).log.length ≤ d.x.log.length + 400 := by
    have := text_len' d.p h.fine.ok
    simp only [Ext.compact, frameL_len, List.length_append, lastD_len, List.length_singleton]; omega
  have H := hid h
  have HXL := hid hxl
  have c0 : (w.alloc (.cells (opArr 9 r t a bb c s) 46)).cell? ⟨d.pb, 0, none⟩ = some (.pointer (some ⟨d.b, 0, none⟩)) := blk_cell (BX.out.bk' h.pb) 0
  clear h hxl ht
  unfold opArr at *
  go_enter Tryz.func23, Tryz.ntmps23
  go_wp2_with fail
  refine HP.out.mono ?_
  rintro e w1 ⟨rfl, r1⟩
  have R1 := hid r1
  have e1 : w1.cell? ⟨d.pb, 1, none⟩ = some (.pointer (some ⟨d.cb, 0, none⟩)) := blk_cell ((r1.2.block d.pb (lt_of_blk (BX.out.bk' H.out.pb)) (ty_ne H.out.pb H.out.b (by decide))).trans (BX.out.bk' H.out.pb)) 1
  have HRr := hid (ref_on_rep H.out BX.out r1)
  clear r1 c0
  go_wp2_with fail
  refine (HQ.out _ HRr.out).mono ?_
  rintro e w2 ⟨rfl, r2⟩
  have FN := hid (pstep_of2 (p' := d.p) (x' := d.x.compact d.p) H.out hbs H.out.fine H.out.hole (Nat.le_succ _) HXL.out id BX.out R1.out r2)
  clear r2 e1
  go_wp2
  go_ret
  exact ⟨rfl, FN.out⟩

theorem does9 : Does 9 where
  client o h3 h7 h6 base B d w h hb hB hs ht := does7.client o h3 h7 h7 base B d w h hb hB hs ht
  other o h1 n1 n10 n37 h6 base B d w h hb hB hs ht := by
    by_cases hk : o.kind ≤ 7
    · exact does7.other o h1 n1 n10 n37 hk base B d w h hb hB hs ht
    · obtain ⟨kd, r, t, a, b, c, s⟩ := o
      simp only at h1 n1 n10 n37 h6 hk
      have : kd = 8 ∨ kd = 9 := by omega
      rcases this with rfl | rfl
      · exact other8 base B d r t a b c s w h (by omega)
      · exact other9 base B d r t a b c s w h hb (by omega) ht
  begin o hk h6 base B w hb hB hs ht := does7.begin o hk (by rcases hk with e | e <;> omega) base B w hb hB hs ht
end Go.Proofs.YtalaldfgjgpacaaGreatDoor
