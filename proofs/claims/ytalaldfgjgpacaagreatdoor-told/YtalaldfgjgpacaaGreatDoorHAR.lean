import Derived.Test.YtalaldfgjgpacaaGreatDoorHAP
import Derived.Test.YtalaldfgjgpacaaGreatDoorHAQ
namespace Go.Proofs.YtalaldfgjgpacaaGreatDoor
set_option linter.unusedVariables false
set_option linter.unusedSimpArgs false

theorem inb_dotsOf {p : Pc} (h : p.inb) (c it : Int) : (p.dotsOf c it).inb := by
  intro r i hb
  unfold Pc.dotsOf
  rw [h r i hb]
  rfl
theorem inb_cartTo {p : Pc} (h : p.inb) (c : Int) : ∀ k, (p.cartTo c k).inb
  | 0 => inb_empty
  | k + 1 => inb_join (inb_cartTo h c k) (inb_dotsOf h c _)

theorem dotsOf_at (p : Pc) (c it : Int) (r i : Nat) : p.dotsOf c it r i = if (fun s : Sl => s.isOf c it) (p r i) then Sl.dot else Sl.zero := rfl

/-- A dot's own cell of what is taken away, known from now on. -/
theorem known_of {t : Sl} (h : t = Sl.dot ∨ t = Sl.zero) : ({ t with known := true } : Sl) = Sl.dot := by
  rcases h with rfl | rfl <;> rfl

/-- An event that a client asks of a replica keeps the replica's invariant. -/
theorem RepOk.ask {n me : Nat} {p : Pc} {x : Ext} (h : RepOk n p x) (hn : n ≤ 3) (hme : me < n) (h9 : p.count (me : Int) < 9) (kd c it v : Int) (hc0 : 0 ≤ c) (hc1 : c < 3) (hi0 : 0 ≤ it) (hi1 : it < 4) (hv0 : -99 ≤ v) (hv1 : v ≤ 99) :
    RepOk n (p.join (askDelta me p kd c it v)) (x.next (askDelta me p kd c it v)) := by
  have hg : ∀ u : Int, -99 ≤ u → u ≤ 99 → (⟨true, true, c, it, u⟩ : Sl).good := fun u h0 h1 => ⟨hc0, hc1, hi0, hi1, h0, h1⟩
  unfold askDelta
  split
  · exact h.event hn hme h9 (fun _ => false) (fun _ e => by cases e) (fun r i _ _ => rfl) inb_empty _ rfl (fun _ => hg v hv0 hv1) (fun e => by cases e)
  · split
    · exact h.event hn hme h9 (fun s => s.isOf c it) (fun s e => by simp only [Sl.isOf, Bool.and_eq_true] at e; exact e.1) (fun r i _ _ => rfl) (inb_dotsOf h.inb c it) _ rfl (fun _ => hg _ (by omega) (by omega)) (fun e => by cases e)
    · split
      · have e : ({ (p.dotsOf c it) me (p.count (me : Int)) with known := true } : Sl) = Sl.dot := by
          apply known_of
          unfold Pc.dotsOf
          split
          · exact .inl rfl
          · exact .inr rfl
        rw [e]
        exact h.event hn hme h9 (fun s => s.isOf c it) (fun s e => by simp only [Sl.isOf, Bool.and_eq_true] at e; exact e.1) (fun r i _ _ => rfl) (inb_dotsOf h.inb c it) _ rfl (fun e => by cases e) (fun _ => ⟨rfl, rfl, rfl⟩)
      · have e : ({ (p.cartTo c 4) me (p.count (me : Int)) with known := true } : Sl) = Sl.dot := by
          apply known_of
          rw [cart4_at p h.fine.ok c me _ (by omega) h9]
          split
          · exact .inl rfl
          · exact .inr rfl
        rw [e]
        exact h.event hn hme h9 (fun s => s.inCart c) (fun s e => by simp only [Sl.inCart, Bool.and_eq_true] at e; exact e.1) (cart4_at p h.fine.ok c) (inb_cartTo h.inb c 4) _ rfl (fun e => by cases e) (fun _ => ⟨rfl, rfl, rfl⟩)
end Go.Proofs.YtalaldfgjgpacaaGreatDoor

namespace Go.Proofs.YtalaldfgjgpacaaGreatDoor
set_option linter.unusedVariables false
set_option linter.unusedSimpArgs false
open Go.RowKit
attribute [local go_sem ↓] Go.wp_at_zero Go.wp_at_succ run_load63 run_store63
attribute [local go_sem] blkOf_mk offOf_mk isPt_mk isRow_pc Has_drew HasW_drew rowOf_drew HasW_new Has_alloc rowOf_alloc

/-- A head. -/
def headL (k : UInt8) (f t c : Nat) : Bs := [k, dig f, dig t, dig (c / 10), dig (c % 10)]

set_option maxRecDepth 100000 in
set_option maxHeartbeats 2000000 in
theorem messageText_any (k : UInt8) (f t c : Nat) (q : Pc) (w : World) (hf : f < 10) (ht : t < 10) (hc : c < 100) (hq : q.ok) :
    Calls Tryz.prog 117 #[.agg (headArr [k] f t c), .agg q.arr] w fun e w' => e = .returned (.string ⟨(headL k f t c ++ q.text).toArray⟩) ∧ Blw w w' := by
  have H1 := hid (fun wx => headText_any k f t c wx hf ht hc)
  have H2 := hid (fun wx => text_any q hq wx)
  have B1 : Hid (Blw w ((w.alloc (.cells (headArr [k] f t c) 71)).alloc (.cells q.arr 65))) := ((Blw.rfl _).al _).al _
  have G2 := hid (hp_new2 w (.cells (headArr [k] f t c) 71) (.cells q.arr 65))
  have htl := text_len' q hq
  have HCat := hid (ByteArray.mk_append_mk (headL k f t c) q.text)
  unfold headArr at *
  unfold headL at *
  clear hq
  generalize q.text = tx at *
  have hr := rowOf_pc G2.out
  have hh := Has_pc G2.out
  go_enter Tryz.func117, Tryz.ntmps117
  go_wp2_with fail
  refine (H1.out _).mono ?_
  rintro e w1 ⟨rfl, b1⟩
  have g2 := b1.bk' G2.out
  have C1 := hid (B1.out.tr b1)
  clear hr hh
  have hr := rowOf_pc g2
  have hh := Has_pc g2
  clear g2 b1
  go_wp2_with fail
  refine (H2.out _).mono ?_
  rintro e w2 ⟨rfl, b2⟩
  have C2 := hid (C1.out.tr b2)
  clear b2 hr hh
  go_wp2
  go_ret
  exact ⟨congrArg (fun b => Ending.returned (.string b)) HCat.out, C2.out⟩

/-- What Ship writes to another replica that has acknowledged so much. -/
def shipL (me : Nat) (p : Pc) (x : Ext) (r a : Nat) : Bs := if x.had = a then [] else if x.had - a ≤ x.kept then headL 73 me r x.had ++ (tailJ x.late (x.had - a) 0).text else headL 70 me r x.had ++ p.text

set_option maxRecDepth 100000 in
set_option maxHeartbeats 4000000 in
theorem ship_yes (b me n r : Nat) (p : Pc) (x : Ext) (w : World) (ao : Nat) (hn : n ≤ 3) (hme : me < n) (hr : r < n) (hrm : r ≠ me) (hp : p.ok) (hh : x.had < 100) (hao : ao = x.ack r) (hak : ao ≤ x.had) (hl : ∀ c, c ≤ x.kept → (tailJ x.late c 0).ok) (h : w.heap[b]? = some (.cells (repArr me n p x) 69)) :
    Calls Tryz.prog 56 #[.pointer (some ⟨b, 0, none⟩), .int .i64 r] w fun e w' => e = .returned (.tuple #[.string ⟨(shipL me p x r ao).toArray⟩, .int .i64 0]) ∧ Blw w w' := by
  have HIO := hid (isOther_any b me n (r : Int) p x w h)
  rw [isOth_nat, show (decide (r ≠ me) && decide (r < n)) = true by simp; omega] at HIO
  have c1 := rep_me h
  have c3 := rep_had h
  have ck := rep_kept h
  have ca := rep_ack h r (by omega)
  rw [← hao] at ca
  have H := hid h
  have HLD := hid (fun wx hc hw => lastDeltas_any b me n p x (x.had - ao) wx hc hw)
  have HSL : Hid (shipL me p x r ao = if x.had = ao then [] else if x.had - ao ≤ x.kept then headL 73 me r x.had ++ (tailJ x.late (x.had - ao) 0).text else headL 70 me r x.had ++ p.text) := rfl
  have HE : Hid (((x.had - ao : Nat) : Int) = (x.had : Int) - (ao : Int)) := by show _ = _; omega
  rw [HE.out] at HLD
  have HL := hid hl
  have hkb : x.kept ≤ 4 := Nat.min_le_left _ _
  have HP := hid hp
  clear h hl hao hp
  by_cases h0 : x.had = ao
  · have e0 : (((x.had : Int) - (ao : Int)) == 0) = true := by rw [beq_iff_eq]; omega
    have ES : Hid (shipL me p x r ao = []) := by show _ = _; rw [HSL.out, if_pos h0]
    clear h0
    go_enter Tryz.func56, Tryz.ntmps56
    go_wp2_with fail
    refine HIO.out.mono ?_
    rintro e w1 ⟨rfl, hw1⟩
    subst w1
    go_wp2_with fail
    go_quiet (fail)
    go_wp2
    go_ret2
    exact ⟨by rw [ES.out]; rfl, Blw.drn (Blw.rfl _) _⟩
  · have e0 : (((x.had : Int) - (ao : Int)) == 0) = false := by rw [beq_eq_false_iff_ne]; omega
    by_cases hk : x.had - ao ≤ x.kept
    · have dk : decide (((x.had : Int) - (ao : Int)) ≤ (x.kept : Int)) = true := by simp; omega
      have HQ := hid (HL.out _ hk)
      have HM := hid (fun wx => messageText_any 73 me r x.had (tailJ x.late (x.had - ao) 0) wx (by omega) (by omega) hh HQ.out)
      have HLD' := hid (fun wx hw => HLD.out wx hk hw)
      have ES : Hid (shipL me p x r ao = headL 73 me r x.had ++ (tailJ x.late (x.had - ao) 0).text) := by show _ = _; rw [HSL.out, if_neg h0, if_pos hk]
      generalize tailJ x.late (x.had - ao) 0 = tq at *
      clear HLD HSL HL HQ h0
      unfold headArr at HM
      go_enter Tryz.func56, Tryz.ntmps56
      go_wp2_with fail
      refine HIO.out.mono ?_
      rintro e w1 ⟨rfl, hw1⟩
      subst w1
      go_wp2_with fail
      go_quiet (fail)
      obtain ⟨w1, hw1⟩ : ∃ w1, w1 = w.drewN nq := ⟨_, rfl⟩
      rw [← hw1]
      have B1 : Hid (Blw w w1) := by show Blw w w1; rw [hw1]; exact Blw.drn (Blw.rfl _) _
      have K1 := hid (B1.out.bk' H.out)
      clear hw1 c1 c3 ck ca
      have z0 : w1.cell? ⟨b, 0, none⟩ = some (.int .i64 me) := rep_me K1.out
      have z3 : w1.cell? ⟨b, 137, none⟩ = some (.int .i64 x.had) := rep_had K1.out
      have BA : Hid (Blw w1 (w1.alloc (.cells #[.string ⟨#[]⟩, .int .i64 0, .int .i64 0, .int .i64 0] 71))) := (Blw.rfl _).al _
      have z0' : (w1.alloc (.cells #[.string ⟨#[]⟩, .int .i64 0, .int .i64 0, .int .i64 0] 71)).cell? ⟨b, 0, none⟩ = some (.int .i64 me) := rep_me (BA.out.bk' K1.out)
      have z3' : (w1.alloc (.cells #[.string ⟨#[]⟩, .int .i64 0, .int .i64 0, .int .i64 0] 71)).cell? ⟨b, 137, none⟩ = some (.int .i64 x.had) := rep_had (BA.out.bk' K1.out)
      go_upto_region 6 with fail
      go_region
      have G2 := hid (hp_new w1 (.cells #[.string ⟨#[70]⟩, .int .i64 me, .int .i64 r, .int .i64 x.had] 71))
      have B2 : Hid (Blw w (w1.alloc (.cells #[.string ⟨#[70]⟩, .int .i64 me, .int .i64 r, .int .i64 x.had] 71)).drew) := (B1.out.al _).dr
      obtain ⟨w2, hw2⟩ : ∃ w2, w2 = (w1.alloc (.cells #[.string ⟨#[70]⟩, .int .i64 me, .int .i64 r, .int .i64 x.had] 71)).drew := ⟨_, rfl⟩
      rw [← hw2] at B2 ⊢
      have G2' : Hid (w2.heap[w1.heap.size]? = some (.cells #[.string ⟨#[70]⟩, .int .i64 me, .int .i64 r, .int .i64 x.had] 71)) := by show _ = _; rw [hw2]; exact G2.out
      have hbs := B1.out.sz
      have hb2 := lt_of_blk G2'.out
      generalize w1.heap.size = hb at *
      clear hw2 z0 z3 z0' z3' BA K1 B1 G2
      have K2 := hid (B2.out.bk' H.out)
      have r2 := rowOf_rep K2.out
      have h2 := Has_rep K2.out
      go_upto_region 8 with fail
      have g0 := hid (hp_new w2 (.cells Tryz.zeroCells65 65))
      have hbne : hb ≠ w2.heap.size := by omega
      have hbl : b < w2.heap.size := lt_of_blk K2.out
      have w2w := B2.out.sz
      have T3 : Hid ((putRowAt (w2.alloc (.cells Tryz.zeroCells65 65)) w2.heap.size 0 (.agg p.arr)).heap[w2.heap.size]? = some (.cells p.arr 65)) := put_new
      have H3 : Hid ((putRowAt (w2.alloc (.cells Tryz.zeroCells65 65)) w2.heap.size 0 (.agg p.arr)).heap[hb]? = some (.cells #[.string ⟨#[70]⟩, .int .i64 me, .int .i64 r, .int .i64 x.had] 71)) := by show _ = _; rw [put_ne hbne]; exact hp_old _ hb2 G2'.out
      have K3 : Hid ((putRowAt (w2.alloc (.cells Tryz.zeroCells65 65)) w2.heap.size 0 (.agg p.arr)).heap[b]? = some (.cells (repArr me n p x) 69)) := by show _ = _; rw [put_ne (by omega)]; exact hp_old _ hbl K2.out
      have B3 : Hid (Blw w (putRowAt (w2.alloc (.cells Tryz.zeroCells65 65)) w2.heap.size 0 (.agg p.arr))) := put_blw (B2.out.al _) _ _ w2w
      generalize putRowAt (w2.alloc (.cells Tryz.zeroCells65 65)) w2.heap.size 0 (.agg p.arr) = w3 at *
      generalize w2.heap.size = tb at *
      clear r2 h2 g0 K2 G2' B2
      have ck3 := rep_kept K3.out
      have hf0 := blk_frozen H3.out 0
      have hc0 : w3.cell? ⟨hb, 0, none⟩ = some (.string ⟨#[70]⟩) := blk_cell H3.out 0
      have H4 : Hid ((w3.setCell ⟨hb, 0, none⟩ (.string ⟨#[73]⟩)).heap[hb]? = some (.cells #[.string ⟨#[73]⟩, .int .i64 me, .int .i64 r, .int .i64 x.had] 71)) := by show _ = _; rw [heap_setCell_self H3.out]; rfl
      have K4 : Hid ((w3.setCell ⟨hb, 0, none⟩ (.string ⟨#[73]⟩)).heap[b]? = some (.cells (repArr me n p x) 69)) := (Below.heap_setCell w3 ⟨hb, 0, none⟩ _ b (ty_ne K3.out H3.out (by decide))).trans K3.out
      have T4 : Hid ((w3.setCell ⟨hb, 0, none⟩ (.string ⟨#[73]⟩)).heap[tb]? = some (.cells p.arr 65)) := (Below.heap_setCell w3 ⟨hb, 0, none⟩ _ tb (ty_ne T3.out H3.out (by decide))).trans T3.out
      have B4 : Hid (Blw w (w3.setCell ⟨hb, 0, none⟩ (.string ⟨#[73]⟩))) := B3.out.sc _ _ _ hbs
      go_upto_region 10 with fail
      generalize w3.setCell ⟨hb, 0, none⟩ (.string ⟨#[73]⟩) = w4 at *
      clear H3 K3 T3 B3 hf0 hc0 ck3
      go_wp2_with fail
      refine (HLD'.out _ K4.out).mono ?_
      rintro e w5 ⟨rfl, b5⟩
      have T5 := hid (b5.bk' T4.out)
      have H5 := hid (b5.bk' H4.out)
      have B5 := hid (B4.out.tr b5)
      have hw5 := HasW_pc T5.out
      have T6 : Hid ((putRowAt w5 tb 0 (.agg tq.arr)).heap[tb]? = some (.cells tq.arr 65)) := put_pc T5.out (by rw [Pc.size])
      have H6 : Hid ((putRowAt w5 tb 0 (.agg tq.arr)).heap[hb]? = some (.cells #[.string ⟨#[73]⟩, .int .i64 me, .int .i64 r, .int .i64 x.had] 71)) := by show _ = _; rw [put_ne hbne]; exact H5.out
      have B8 : Hid (Blw w (putRowAt w5 tb 0 (.agg tq.arr))) := put_blw B5.out _ _ w2w
      clear b5 T4 H4 B4 K4 T5 H5 B5
      go_upto_region 11 with fail
      generalize putRowAt w5 tb 0 (.agg tq.arr) = w6 at *
      clear hw5
      have r6 := rowOf_pc T6.out
      have h6 := Has_pc T6.out
      have y0 : w6.cell? ⟨hb, 0, none⟩ = some (.string ⟨#[73]⟩) := blk_cell H6.out 0
      have y1 : w6.cell? ⟨hb, 1, none⟩ = some (.int .i64 me) := blk_cell H6.out 1
      have y2 : w6.cell? ⟨hb, 2, none⟩ = some (.int .i64 r) := blk_cell H6.out 2
      have y3 : w6.cell? ⟨hb, 3, none⟩ = some (.int .i64 x.had) := blk_cell H6.out 3
      go_wp2_with fail
      refine (HM.out _).mono ?_
      rintro e w9 ⟨rfl, b9⟩
      have B9 := hid (B8.out.tr b9)
      clear b9
      go_wp2
      go_ret2
      exact ⟨by rw [ES.out]; rfl, B9.out⟩
    · have dk : decide (((x.had : Int) - (ao : Int)) ≤ (x.kept : Int)) = false := by simp; omega
      have HM := hid (fun wx => messageText_any 70 me r x.had p wx (by omega) (by omega) hh HP.out)
      have ES : Hid (shipL me p x r ao = headL 70 me r x.had ++ p.text) := by show _ = _; rw [HSL.out, if_neg h0, if_neg hk]
      clear HLD HSL HL h0
      unfold headArr at HM
      go_enter Tryz.func56, Tryz.ntmps56
      go_wp2_with fail
      refine HIO.out.mono ?_
      rintro e w1 ⟨rfl, hw1⟩
      subst w1
      go_wp2_with fail
      go_quiet (fail)
      obtain ⟨w1, hw1⟩ : ∃ w1, w1 = w.drewN nq := ⟨_, rfl⟩
      rw [← hw1]
      have B1 : Hid (Blw w w1) := by show Blw w w1; rw [hw1]; exact Blw.drn (Blw.rfl _) _
      have K1 := hid (B1.out.bk' H.out)
      clear hw1 c1 c3 ck ca
      have z0 : w1.cell? ⟨b, 0, none⟩ = some (.int .i64 me) := rep_me K1.out
      have z3 : w1.cell? ⟨b, 137, none⟩ = some (.int .i64 x.had) := rep_had K1.out
      have BA : Hid (Blw w1 (w1.alloc (.cells #[.string ⟨#[]⟩, .int .i64 0, .int .i64 0, .int .i64 0] 71))) := (Blw.rfl _).al _
      have z0' : (w1.alloc (.cells #[.string ⟨#[]⟩, .int .i64 0, .int .i64 0, .int .i64 0] 71)).cell? ⟨b, 0, none⟩ = some (.int .i64 me) := rep_me (BA.out.bk' K1.out)
      have z3' : (w1.alloc (.cells #[.string ⟨#[]⟩, .int .i64 0, .int .i64 0, .int .i64 0] 71)).cell? ⟨b, 137, none⟩ = some (.int .i64 x.had) := rep_had (BA.out.bk' K1.out)
      go_upto_region 6 with fail
      go_region
      have G2 := hid (hp_new w1 (.cells #[.string ⟨#[70]⟩, .int .i64 me, .int .i64 r, .int .i64 x.had] 71))
      have B2 : Hid (Blw w (w1.alloc (.cells #[.string ⟨#[70]⟩, .int .i64 me, .int .i64 r, .int .i64 x.had] 71)).drew) := (B1.out.al _).dr
      obtain ⟨w2, hw2⟩ : ∃ w2, w2 = (w1.alloc (.cells #[.string ⟨#[70]⟩, .int .i64 me, .int .i64 r, .int .i64 x.had] 71)).drew := ⟨_, rfl⟩
      rw [← hw2] at B2 ⊢
      have G2' : Hid (w2.heap[w1.heap.size]? = some (.cells #[.string ⟨#[70]⟩, .int .i64 me, .int .i64 r, .int .i64 x.had] 71)) := by show _ = _; rw [hw2]; exact G2.out
      have hbs := B1.out.sz
      have hb2 := lt_of_blk G2'.out
      generalize w1.heap.size = hb at *
      clear hw2 z0 z3 z0' z3' BA K1 B1 G2
      have K2 := hid (B2.out.bk' H.out)
      have r2 := rowOf_rep K2.out
      have h2 := Has_rep K2.out
      go_upto_region 8 with fail
      have g0 := hid (hp_new w2 (.cells Tryz.zeroCells65 65))
      have hbne : hb ≠ w2.heap.size := by omega
      have hbl : b < w2.heap.size := lt_of_blk K2.out
      have w2w := B2.out.sz
      have T3 : Hid ((putRowAt (w2.alloc (.cells Tryz.zeroCells65 65)) w2.heap.size 0 (.agg p.arr)).heap[w2.heap.size]? = some (.cells p.arr 65)) := put_new
      have H3 : Hid ((putRowAt (w2.alloc (.cells Tryz.zeroCells65 65)) w2.heap.size 0 (.agg p.arr)).heap[hb]? = some (.cells #[.string ⟨#[70]⟩, .int .i64 me, .int .i64 r, .int .i64 x.had] 71)) := by show _ = _; rw [put_ne hbne]; exact hp_old _ hb2 G2'.out
      have K3 : Hid ((putRowAt (w2.alloc (.cells Tryz.zeroCells65 65)) w2.heap.size 0 (.agg p.arr)).heap[b]? = some (.cells (repArr me n p x) 69)) := by show _ = _; rw [put_ne (by omega)]; exact hp_old _ hbl K2.out
      have B3 : Hid (Blw w (putRowAt (w2.alloc (.cells Tryz.zeroCells65 65)) w2.heap.size 0 (.agg p.arr))) := put_blw (B2.out.al _) _ _ w2w
      generalize putRowAt (w2.alloc (.cells Tryz.zeroCells65 65)) w2.heap.size 0 (.agg p.arr) = w3 at *
      generalize w2.heap.size = tb at *
      clear r2 h2 g0 K2 G2' B2
      have ck3 := rep_kept K3.out
      have B8 := hid B3.out
      have r6 := rowOf_pc T3.out
      have h6 := Has_pc T3.out
      have y0 : w3.cell? ⟨hb, 0, none⟩ = some (.string ⟨#[70]⟩) := blk_cell H3.out 0
      have y1 : w3.cell? ⟨hb, 1, none⟩ = some (.int .i64 me) := blk_cell H3.out 1
      have y2 : w3.cell? ⟨hb, 2, none⟩ = some (.int .i64 r) := blk_cell H3.out 2
      have y3 : w3.cell? ⟨hb, 3, none⟩ = some (.int .i64 x.had) := blk_cell H3.out 3
      go_wp2_with fail
      refine (HM.out _).mono ?_
      rintro e w9 ⟨rfl, b9⟩
      have B9 := hid (B8.out.tr b9)
      clear b9
      go_wp2
      go_ret2
      exact ⟨by rw [ES.out]; rfl, B9.out⟩


set_option maxRecDepth 100000 in
set_option maxHeartbeats 2000000 in
theorem ship_no (b me n : Nat) (tr : Int) (p : Pc) (x : Ext) (w : World) (hno : isOth me n tr = false) (h : w.heap[b]? = some (.cells (repArr me n p x) 69)) :
    Calls Tryz.prog 56 #[.pointer (some ⟨b, 0, none⟩), .int .i64 tr] w fun e w' => e = .returned (.tuple #[.string ⟨#[]⟩, .int .i64 1]) ∧ Blw w w' := by
  have HIO := hid (isOther_any b me n tr p x w h)
  rw [hno] at HIO
  clear h hno
  go_enter Tryz.func56, Tryz.ntmps56
  go_wp2_with fail
  refine HIO.out.mono ?_
  rintro e w1 ⟨rfl, hw1⟩
  subst w1
  go_wp2
  go_ret2
  exact ⟨rfl, Blw.rfl _⟩
end Go.Proofs.YtalaldfgjgpacaaGreatDoor

namespace Go.Proofs.YtalaldfgjgpacaaGreatDoor
set_option linter.unusedVariables false
set_option linter.unusedSimpArgs false
open Go.RowKit
attribute [local go_sem ↓] Go.wp_at_zero Go.wp_at_succ
attribute [local go_sem] blkOf_mk offOf_mk isPt_mk

def Ext.setAck (x : Ext) (f k : Nat) : Ext := { x with ack := fun r => if r = f then k else x.ack r }

theorem rep_put_ack0 {w : World} {b me n : Nat} {p : Pc} {x : Ext} {t : TypeId} (h : w.heap[b]? = some (.cells (repArr me n p x) t)) (k : Nat) : (w.setCell ⟨b, 680, none⟩ (.int .i64 k)).heap[b]? = some (.cells (repArr me n p (x.setAck 0 k)) t) := by
  have e := heap_setCell_self (o := 680) (repF_blk h) (.int .i64 (k : Int))
  rw [show 680 = 679 + 1 from rfl, repF_set _ _ _ _ _ _ 1 _ (by simp [Ext.tail])] at e
  rw [repF]
  exact e
theorem rep_put_ack1 {w : World} {b me n : Nat} {p : Pc} {x : Ext} {t : TypeId} (h : w.heap[b]? = some (.cells (repArr me n p x) t)) (k : Nat) : (w.setCell ⟨b, 681, none⟩ (.int .i64 k)).heap[b]? = some (.cells (repArr me n p (x.setAck 1 k)) t) := by
  have e := heap_setCell_self (o := 681) (repF_blk h) (.int .i64 (k : Int))
  rw [show 681 = 679 + 2 from rfl, repF_set _ _ _ _ _ _ 2 _ (by simp [Ext.tail])] at e
  rw [repF]
  exact e
theorem rep_put_ack2 {w : World} {b me n : Nat} {p : Pc} {x : Ext} {t : TypeId} (h : w.heap[b]? = some (.cells (repArr me n p x) t)) (k : Nat) : (w.setCell ⟨b, 682, none⟩ (.int .i64 k)).heap[b]? = some (.cells (repArr me n p (x.setAck 2 k)) t) := by
  have e := heap_setCell_self (o := 682) (repF_blk h) (.int .i64 (k : Int))
  rw [show 682 = 679 + 3 from rfl, repF_set _ _ _ _ _ _ 3 _ (by simp [Ext.tail])] at e
  rw [repF]
  exact e

/-- What Acked answers and leaves, case by case. -/
structure AckSpec (ok fm : Bool) (f cnt : Nat) (x : Ext) (er : Int) (x' : Ext) : Prop where
  h5 : ok = false → er = 5 ∧ x' = x
  h6 : ok = true → fm = false → er = 6 ∧ x' = x
  h9 : ok = true → fm = true → x.had < cnt → er = 9 ∧ x' = x
  h0 : ok = true → fm = true → cnt ≤ x.had → cnt ≤ x.ack f → er = 0 ∧ x' = x
  h1 : ok = true → fm = true → cnt ≤ x.had → x.ack f < cnt → er = 0 ∧ x' = x.setAck f cnt

set_option maxRecDepth 100000 in
set_option maxHeartbeats 2000000 in
theorem readHead_len (s : ByteArray) (w : World) (h : s.size ≠ 5) :
    Calls Tryz.prog 70 #[.string s] w fun e w' => e = .returned (.tuple #[.agg #[.string ⟨#[]⟩, .int .i64 0, .int .i64 0, .int .i64 0], .bool false]) ∧ Blw w w' := by
  have h1 : ((s.size : Int) == 5) = false := by rw [beq_eq_false_iff_ne]; omega
  have h2 : ((s.size : Int) != 5) = true := by rw [bne, h1]; rfl
  go_enter Tryz.func70, Tryz.ntmps70
  go_wp2
  exact bodyPost_ret (v := .tuple #[.agg #[.string ⟨#[]⟩, .int .i64 0, .int .i64 0, .int .i64 0], .bool false]) (by simp [results, Tryz.results70, go_sem]) rfl ⟨rfl, (Blw.rfl _).al _⟩

/-- What no head is. -/
theorem acked_bad (b me n : Nat) (p : Pc) (x : Ext) (y : ByteArray) (w : World) (HRH : Hid (∀ wx, Calls Tryz.prog 70 #[.string y] wx fun e w' => e = .returned (.tuple #[.agg #[.string ⟨#[]⟩, .int .i64 0, .int .i64 0, .int .i64 0], .bool false]) ∧ Blw wx w')) (h : w.heap[b]? = some (.cells (repArr me n p x) 69)) :
    Calls Tryz.prog 58 #[.pointer (some ⟨b, 0, none⟩), .string y] w fun e w' => e = .returned (.int .i64 5) ∧ RepTo b me n p x w w' := by
  have H := hid h
  clear h
  go_enter Tryz.func58, Tryz.ntmps58
  go_wp2_with fail
  refine (HRH.out _).mono ?_
  rintro e w1 ⟨rfl, b1⟩
  have B1 := hid b1
  clear b1
  go_wp2
  go_ret
  exact ⟨rfl, (B1.out.al _).bk' H.out, (B1.out.al _).bx b⟩

set_option maxRecDepth 100000 in
set_option maxHeartbeats 4000000 in
theorem acked_at0 (b me n : Nat) (p : Pc) (x : Ext) (c0 c1 c2 c3 c4 : UInt8) (ok fm : Bool) (cn : Nat) (er : Int) (x' : Ext) (y : ByteArray) (w : World) (hy : y = ⟨#[c0, c1, c2, c3, c4]⟩) (hok : ok = (hdOk c1 c2 c3 c4 && ([c0] == [(65 : UInt8)]))) (hf : c1.toNat - 48 = 0) (hc : cn = (c3.toNat - 48) * 10 + (c4.toNat - 48)) (hfm : fm = forMe me n 0 (c2.toNat - 48)) (hS : AckSpec ok fm 0 cn x er x') (hh : x.had < 100)
    (h : w.heap[b]? = some (.cells (repArr me n p x) 69)) (hdo : hdOk c1 c2 c3 c4 = true) (hk : x.ack 0 < 1000) (hcn : cn < 100) :
    Calls Tryz.prog 58 #[.pointer (some ⟨b, 0, none⟩), .string y] w fun e w' => e = .returned (.int .i64 er) ∧ RepTo b me n p x' w w' := by
  have HRH := hid (readHead_any c0 c1 c2 c3 c4 true _ w (by rw [hdo]) rfl)
  rw [if_pos rfl, ← hy, hf, ← hc] at HRH
  have HF := hid (fun wx hw => isForMe_any b me n 0 (c2.toNat - 48) cn [c0] p x wx hw)
  rw [← hfm] at HF
  have S := hid hS
  have H := hid h
  have hbl := lt_of_blk h
  rw [hdo, Bool.true_and] at hok
  have HOK := hid hok
  generalize (c2.toNat - 48) = tt at *
  unfold headArr at *
  cases hk0 : ([c0] == [(65 : UInt8)])
  · have k0 : ([c0] != [(65 : UInt8)]) = true := by rw [bne, hk0]; rfl
    obtain ⟨e1, e2⟩ := hS.h5 (by rw [hok, hk0])
    subst e1 e2
    clear hok hS S h hy hf hc hfm hdo HF HOK
    go_enter Tryz.func58, Tryz.ntmps58
    go_wp2_with fail
    refine HRH.out.mono ?_
    rintro e w1 ⟨rfl, b1⟩
    have B1 := hid b1
    clear b1
    go_wp2
    go_ret
    exact ⟨rfl, (B1.out.al _).bk' H.out, (B1.out.al _).bx b⟩
  · have k0 : ([c0] != [(65 : UInt8)]) = false := by rw [bne, hk0]; rfl
    have OK : Hid (ok = true) := by show _ = _; rw [hok, hk0]
    clear hok hS h hy hf hc hfm hdo HOK
    go_enter Tryz.func58, Tryz.ntmps58
    go_wp2_with fail
    refine HRH.out.mono ?_
    rintro e w1 ⟨rfl, b1⟩
    have G1 := hid (hp_new w1 (.cells #[.string ⟨[c0].toArray⟩, .int .i64 ((0 : Nat) : Int), .int .i64 tt, .int .i64 cn] 71))
    have B1 : Hid (Blw w (w1.alloc (.cells #[.string ⟨[c0].toArray⟩, .int .i64 ((0 : Nat) : Int), .int .i64 tt, .int .i64 cn] 71))) := b1.al _
    clear b1
    go_wp2_with fail
    refine (HF.out _ (B1.out.bk' H.out)).mono ?_
    rintro e w3 ⟨rfl, b3⟩
    have B3 := hid (B1.out.tr b3)
    have G3 := hid (b3.bk' G1.out)
    have R3 := hid (B3.out.bk' H.out)
    generalize w1.heap.size = hb at *
    clear b3 G1 B1
    cases fm
    · obtain ⟨e1, e2⟩ := S.out.h6 OK.out (by trivial)
      subst e1 e2
      go_wp2
      go_ret
      exact ⟨rfl, R3.out, B3.out.bx b⟩
    · have a1 : w3.cell? ⟨hb, 1, none⟩ = some (.int .i64 ((0 : Nat) : Int)) := blk_cell G3.out 1
      have a3 : w3.cell? ⟨hb, 3, none⟩ = some (.int .i64 cn) := blk_cell G3.out 3
      have c3' := rep_had R3.out
      have ck := rep_ack R3.out 0 (by omega)
      simp only [Nat.reduceAdd, Nat.add_zero] at ck
      have fz := blk_frozen R3.out 680
      by_cases hhd : x.had < cn
      · obtain ⟨e1, e2⟩ := S.out.h9 OK.out (by trivial) hhd
        subst e1 e2
        have d1 : decide ((x'.had : Int) < (cn : Int)) = true := by simpa using hhd
        go_wp2_with fail
        go_quiet (fail)
        go_wp2
        go_ret
        exact ⟨rfl, R3.out, (B3.out.drn _).bx b⟩
      · have d1 : decide ((x.had : Int) < (cn : Int)) = false := by simpa using hhd
        by_cases hac : x.ack 0 < cn
        · obtain ⟨e1, e2⟩ := S.out.h1 OK.out (by trivial) (by omega) hac
          have E2 := hid e2
          subst e1
          have d2 : decide ((x.ack 0 : Int) < (cn : Int)) = true := by simpa using hac
          go_wp2_with fail
          go_quiet (fail)
          go_wp2_with fail
          go_quiet (fail)
          go_wp2_with fail
          go_region
          go_wp2
          go_ret
          refine ⟨rfl, ?_, ((B3.out.drn _).bx b).sc _ _⟩
          rw [E2.out]
          exact rep_put_ack0 (((Blw.rfl w3).drn _).bk' R3.out) cn
        · obtain ⟨e1, e2⟩ := S.out.h0 OK.out (by trivial) (by omega) (by omega)
          subst e1 e2
          have d2 : decide ((x'.ack 0 : Int) < (cn : Int)) = false := by simpa using hac
          go_wp2_with fail
          go_quiet (fail)
          go_wp2_with fail
          go_quiet (fail)
          go_wp2
          go_ret
          exact ⟨rfl, R3.out, ((B3.out.drn _).drn _).bx b⟩

set_option maxRecDepth 100000 in
set_option maxHeartbeats 4000000 in
theorem acked_at1 (b me n : Nat) (p : Pc) (x : Ext) (c0 c1 c2 c3 c4 : UInt8) (ok fm : Bool) (cn : Nat) (er : Int) (x' : Ext) (y : ByteArray) (w : World) (hy : y = ⟨#[c0, c1, c2, c3, c4]⟩) (hok : ok = (hdOk c1 c2 c3 c4 && ([c0] == [(65 : UInt8)]))) (hf : c1.toNat - 48 = 1) (hc : cn = (c3.toNat - 48) * 10 + (c4.toNat - 48)) (hfm : fm = forMe me n 1 (c2.toNat - 48)) (hS : AckSpec ok fm 1 cn x er x') (hh : x.had < 100)
    (h : w.heap[b]? = some (.cells (repArr me n p x) 69)) (hdo : hdOk c1 c2 c3 c4 = true) (hk : x.ack 1 < 1000) (hcn : cn < 100) :
    Calls Tryz.prog 58 #[.pointer (some ⟨b, 0, none⟩), .string y] w fun e w' => e = .returned (.int .i64 er) ∧ RepTo b me n p x' w w' := by
  have HRH := hid (readHead_any c0 c1 c2 c3 c4 true _ w (by rw [hdo]) rfl)
  rw [if_pos rfl, ← hy, hf, ← hc] at HRH
  have HF := hid (fun wx hw => isForMe_any b me n 1 (c2.toNat - 48) cn [c0] p x wx hw)
  rw [← hfm] at HF
  have S := hid hS
  have H := hid h
  have hbl := lt_of_blk h
  rw [hdo, Bool.true_and] at hok
  have HOK := hid hok
  generalize (c2.toNat - 48) = tt at *
  unfold headArr at *
  cases hk0 : ([c0] == [(65 : UInt8)])
  · have k0 : ([c0] != [(65 : UInt8)]) = true := by rw [bne, hk0]; rfl
    obtain ⟨e1, e2⟩ := hS.h5 (by rw [hok, hk0])
    subst e1 e2
    clear hok hS S h hy hf hc hfm hdo HF HOK
    go_enter Tryz.func58, Tryz.ntmps58
    go_wp2_with fail
    refine HRH.out.mono ?_
    rintro e w1 ⟨rfl, b1⟩
    have B1 := hid b1
    clear b1
    go_wp2
    go_ret
    exact ⟨rfl, (B1.out.al _).bk' H.out, (B1.out.al _).bx b⟩
  · have k0 : ([c0] != [(65 : UInt8)]) = false := by rw [bne, hk0]; rfl
    have OK : Hid (ok = true) := by show _ = _; rw [hok, hk0]
    clear hok hS h hy hf hc hfm hdo HOK
    go_enter Tryz.func58, Tryz.ntmps58
    go_wp2_with fail
    refine HRH.out.mono ?_
    rintro e w1 ⟨rfl, b1⟩
    have G1 := hid (hp_new w1 (.cells #[.string ⟨[c0].toArray⟩, .int .i64 ((1 : Nat) : Int), .int .i64 tt, .int .i64 cn] 71))
    have B1 : Hid (Blw w (w1.alloc (.cells #[.string ⟨[c0].toArray⟩, .int .i64 ((1 : Nat) : Int), .int .i64 tt, .int .i64 cn] 71))) := b1.al _
    clear b1
    go_wp2_with fail
    refine (HF.out _ (B1.out.bk' H.out)).mono ?_
    rintro e w3 ⟨rfl, b3⟩
    have B3 := hid (B1.out.tr b3)
    have G3 := hid (b3.bk' G1.out)
    have R3 := hid (B3.out.bk' H.out)
    generalize w1.heap.size = hb at *
    clear b3 G1 B1
    cases fm
    · obtain ⟨e1, e2⟩ := S.out.h6 OK.out (by trivial)
      subst e1 e2
      go_wp2
      go_ret
      exact ⟨rfl, R3.out, B3.out.bx b⟩
    · have a1 : w3.cell? ⟨hb, 1, none⟩ = some (.int .i64 ((1 : Nat) : Int)) := blk_cell G3.out 1
      have a3 : w3.cell? ⟨hb, 3, none⟩ = some (.int .i64 cn) := blk_cell G3.out 3
      have c3' := rep_had R3.out
      have ck := rep_ack R3.out 1 (by omega)
      simp only [Nat.reduceAdd, Nat.add_zero] at ck
      have fz := blk_frozen R3.out 681
      by_cases hhd : x.had < cn
      · obtain ⟨e1, e2⟩ := S.out.h9 OK.out (by trivial) hhd
        subst e1 e2
        have d1 : decide ((x'.had : Int) < (cn : Int)) = true := by simpa using hhd
        go_wp2_with fail
        go_quiet (fail)
        go_wp2
        go_ret
        exact ⟨rfl, R3.out, (B3.out.drn _).bx b⟩
      · have d1 : decide ((x.had : Int) < (cn : Int)) = false := by simpa using hhd
        by_cases hac : x.ack 1 < cn
        · obtain ⟨e1, e2⟩ := S.out.h1 OK.out (by trivial) (by omega) hac
          have E2 := hid e2
          subst e1
          have d2 : decide ((x.ack 1 : Int) < (cn : Int)) = true := by simpa using hac
          go_wp2_with fail
          go_quiet (fail)
          go_wp2_with fail
          go_quiet (fail)
          go_wp2_with fail
          go_region
          go_wp2
          go_ret
          refine ⟨rfl, ?_, ((B3.out.drn _).bx b).sc _ _⟩
          rw [E2.out]
          exact rep_put_ack1 (((Blw.rfl w3).drn _).bk' R3.out) cn
        · obtain ⟨e1, e2⟩ := S.out.h0 OK.out (by trivial) (by omega) (by omega)
          subst e1 e2
          have d2 : decide ((x'.ack 1 : Int) < (cn : Int)) = false := by simpa using hac
          go_wp2_with fail
          go_quiet (fail)
          go_wp2_with fail
          go_quiet (fail)
          go_wp2
          go_ret
          exact ⟨rfl, R3.out, ((B3.out.drn _).drn _).bx b⟩

set_option maxRecDepth 100000 in
set_option maxHeartbeats 4000000 in
theorem acked_at2 (b me n : Nat) (p : Pc) (x : Ext) (c0 c1 c2 c3 c4 : UInt8) (ok fm : Bool) (cn : Nat) (er : Int) (x' : Ext) (y : ByteArray) (w : World) (hy : y = ⟨#[c0, c1, c2, c3, c4]⟩) (hok : ok = (hdOk c1 c2 c3 c4 && ([c0] == [(65 : UInt8)]))) (hf : c1.toNat - 48 = 2) (hc : cn = (c3.toNat - 48) * 10 + (c4.toNat - 48)) (hfm : fm = forMe me n 2 (c2.toNat - 48)) (hS : AckSpec ok fm 2 cn x er x') (hh : x.had < 100)
    (h : w.heap[b]? = some (.cells (repArr me n p x) 69)) (hdo : hdOk c1 c2 c3 c4 = true) (hk : x.ack 2 < 1000) (hcn : cn < 100) :
    Calls Tryz.prog 58 #[.pointer (some ⟨b, 0, none⟩), .string y] w fun e w' => e = .returned (.int .i64 er) ∧ RepTo b me n p x' w w' := by
  have HRH := hid (readHead_any c0 c1 c2 c3 c4 true _ w (by rw [hdo]) rfl)
  rw [if_pos rfl, ← hy, hf, ← hc] at HRH
  have HF := hid (fun wx hw => isForMe_any b me n 2 (c2.toNat - 48) cn [c0] p x wx hw)
  rw [← hfm] at HF
  have S := hid hS
  have H := hid h
  have hbl := lt_of_blk h
  rw [hdo, Bool.true_and] at hok
  have HOK := hid hok
  generalize (c2.toNat - 48) = tt at *
  unfold headArr at *
  cases hk0 : ([c0] == [(65 : UInt8)])
  · have k0 : ([c0] != [(65 : UInt8)]) = true := by rw [bne, hk0]; rfl
    obtain ⟨e1, e2⟩ := hS.h5 (by rw [hok, hk0])
    subst e1 e2
    clear hok hS S h hy hf hc hfm hdo HF HOK
    go_enter Tryz.func58, Tryz.ntmps58
    go_wp2_with fail
    refine HRH.out.mono ?_
    rintro e w1 ⟨rfl, b1⟩
    have B1 := hid b1
    clear b1
    go_wp2
    go_ret
    exact ⟨rfl, (B1.out.al _).bk' H.out, (B1.out.al _).bx b⟩
  · have k0 : ([c0] != [(65 : UInt8)]) = false := by rw [bne, hk0]; rfl
    have OK : Hid (ok = true) := by show _ = _; rw [hok, hk0]
    clear hok hS h hy hf hc hfm hdo HOK
    go_enter Tryz.func58, Tryz.ntmps58
    go_wp2_with fail
    refine HRH.out.mono ?_
    rintro e w1 ⟨rfl, b1⟩
    have G1 := hid (hp_new w1 (.cells #[.string ⟨[c0].toArray⟩, .int .i64 ((2 : Nat) : Int), .int .i64 tt, .int .i64 cn] 71))
    have B1 : Hid (Blw w (w1.alloc (.cells #[.string ⟨[c0].toArray⟩, .int .i64 ((2 : Nat) : Int), .int .i64 tt, .int .i64 cn] 71))) := b1.al _
    clear b1
    go_wp2_with fail
    refine (HF.out _ (B1.out.bk' H.out)).mono ?_
    rintro e w3 ⟨rfl, b3⟩
    have B3 := hid (B1.out.tr b3)
    have G3 := hid (b3.bk' G1.out)
    have R3 := hid (B3.out.bk' H.out)
    generalize w1.heap.size = hb at *
    clear b3 G1 B1
    cases fm
    · obtain ⟨e1, e2⟩ := S.out.h6 OK.out (by trivial)
      subst e1 e2
      go_wp2
      go_ret
      exact ⟨rfl, R3.out, B3.out.bx b⟩
    · have a1 : w3.cell? ⟨hb, 1, none⟩ = some (.int .i64 ((2 : Nat) : Int)) := blk_cell G3.out 1
      have a3 : w3.cell? ⟨hb, 3, none⟩ = some (.int .i64 cn) := blk_cell G3.out 3
      have c3' := rep_had R3.out
      have ck := rep_ack R3.out 2 (by omega)
      simp only [Nat.reduceAdd, Nat.add_zero] at ck
      have fz := blk_frozen R3.out 682
      by_cases hhd : x.had < cn
      · obtain ⟨e1, e2⟩ := S.out.h9 OK.out (by trivial) hhd
        subst e1 e2
        have d1 : decide ((x'.had : Int) < (cn : Int)) = true := by simpa using hhd
        go_wp2_with fail
        go_quiet (fail)
        go_wp2
        go_ret
        exact ⟨rfl, R3.out, (B3.out.drn _).bx b⟩
      · have d1 : decide ((x.had : Int) < (cn : Int)) = false := by simpa using hhd
        by_cases hac : x.ack 2 < cn
        · obtain ⟨e1, e2⟩ := S.out.h1 OK.out (by trivial) (by omega) hac
          have E2 := hid e2
          subst e1
          have d2 : decide ((x.ack 2 : Int) < (cn : Int)) = true := by simpa using hac
          go_wp2_with fail
          go_quiet (fail)
          go_wp2_with fail
          go_quiet (fail)
          go_wp2_with fail
          go_region
          go_wp2
          go_ret
          refine ⟨rfl, ?_, ((B3.out.drn _).bx b).sc _ _⟩
          rw [E2.out]
          exact rep_put_ack2 (((Blw.rfl w3).drn _).bk' R3.out) cn
        · obtain ⟨e1, e2⟩ := S.out.h0 OK.out (by trivial) (by omega) (by omega)
          subst e1 e2
          have d2 : decide ((x'.ack 2 : Int) < (cn : Int)) = false := by simpa using hac
          go_wp2_with fail
          go_quiet (fail)
          go_wp2_with fail
          go_quiet (fail)
          go_wp2
          go_ret
          exact ⟨rfl, R3.out, ((B3.out.drn _).drn _).bx b⟩
end Go.Proofs.YtalaldfgjgpacaaGreatDoor
