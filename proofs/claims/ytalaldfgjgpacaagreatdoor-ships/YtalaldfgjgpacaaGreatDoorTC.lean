import Derived.Test.YtalaldfgjgpacaaGreatDoorTB
namespace Go.Proofs.YtalaldfgjgpacaaGreatDoor
set_option linter.unusedVariables false
set_option linter.unusedSimpArgs false
open Go.RowKit
attribute [local go_sem ↓] Go.wp_at_zero Go.wp_at_succ run_load63 run_store63
attribute [local go_sem] blkOf_mk offOf_mk isPt_mk isRow_pc Has_drew HasW_drew rowOf_drew HasW_new Has_alloc rowOf_alloc isRow_zero63

/-- What Take answers and leaves, case by case. -/
structure TakeSpec (ok fm : Bool) (ce : Int) (nw : Bool) (q p : Pc) (x : Ext) (a0 : Bs) (er : Int) (an : Bs) (p' : Pc) (x' : Ext) : Prop where
  h5 : ok = false → er = 5 ∧ an = [] ∧ p' = p ∧ x' = x
  h6 : ok = true → fm = false → er = 6 ∧ an = [] ∧ p' = p ∧ x' = x
  h7 : ok = true → fm = true → ce ≠ 0 → er = ce ∧ an = [] ∧ p' = p ∧ x' = x
  h8 : ok = true → fm = true → ce = 0 → nw = false → er = 0 ∧ an = a0 ∧ p' = p ∧ x' = x
  h9 : ok = true → fm = true → ce = 0 → nw = true → er = 0 ∧ an = a0 ∧ p' = p.join q ∧ x' = x.next q

/-- The two boxes that Take fills. -/
theorem two_boxes (w1 : World) (k0 f t c : Value) (q : Pc) :
    (putRowAt ((w1.alloc (.cells #[k0, f, t, c] 71)).alloc (.cells Tryz.zeroCells65 65)) (w1.heap.size + 1) 0 (.agg q.arr)).heap[w1.heap.size]? = some (.cells #[k0, f, t, c] 71) ∧
    (putRowAt ((w1.alloc (.cells #[k0, f, t, c] 71)).alloc (.cells Tryz.zeroCells65 65)) (w1.heap.size + 1) 0 (.agg q.arr)).heap[w1.heap.size + 1]? = some (.cells q.arr 65) ∧
    Blw w1 (putRowAt ((w1.alloc (.cells #[k0, f, t, c] 71)).alloc (.cells Tryz.zeroCells65 65)) (w1.heap.size + 1) 0 (.agg q.arr)) ∧ HasW ((w1.alloc (.cells #[k0, f, t, c] 71)).alloc (.cells Tryz.zeroCells65 65)) (w1.heap.size + 1) 0 := by
  have b : Blw w1 ((w1.alloc (.cells #[k0, f, t, c] 71)).alloc (.cells Tryz.zeroCells65 65)) := ((Blw.rfl w1).al _).al _
  have ha : ((w1.alloc (.cells #[k0, f, t, c] 71)).alloc (.cells Tryz.zeroCells65 65)).heap[w1.heap.size]? = some (.cells #[k0, f, t, c] 71) := hp_old _ (by simp) (hp_new _ _)
  have hz := hp_new2 w1 (.cells #[k0, f, t, c] 71) (.cells Tryz.zeroCells65 65)
  refine ⟨?_, put_pc hz zsize63, put_blw b _ _ (by omega), HasW_of hz zle63⟩
  rw [put_ne (by omega)]; exact ha

set_option maxRecDepth 100000 in
set_option maxHeartbeats 8000000 in
theorem take_any (b me n : Nat) (p : Pc) (x : Ext) (c0 c1 c2 c3 c4 : UInt8) (t : Bs) (ok : Bool) (er : Int) (an : Bs) (p' : Pc) (x' : Ext) (w : World) (hl : t.length ≤ 295) (hn : n ≤ 3) (hme : me < n) (hx : x.small) (ht : Tab Tryz.prog w)
    (h : w.heap[b]? = some (.cells (repArr me n p x) 69)) (hok : ok = (hdOk c1 c2 c3 c4 && ((([c0] == [(73 : UInt8)]) || ([c0] == [(70 : UInt8)])) && readOk t)))
    (hS : TakeSpec ok (forMe me n (c1.toNat - 48) (c2.toNat - 48)) (checkE n p (readP t)) (decide (p.dots < (p.join (readP t)).dots)) (readP t) p x [65, dig me, dig (c1.toNat - 48), dig (((c3.toNat - 48) * 10 + (c4.toNat - 48)) / 10), dig (((c3.toNat - 48) * 10 + (c4.toNat - 48)) % 10)] er an p' x') :
    Calls Tryz.prog 18 #[.pointer (some ⟨b, 0, none⟩), .string ⟨(c0 :: c1 :: c2 :: c3 :: c4 :: t).toArray⟩] w fun e w' => e = .returned (.tuple #[.string ⟨an.toArray⟩, .int .i64 er]) ∧ RepTo b me n p' x' w w' := by
  have H := hid h
  have T := hid ht
  have S := hid hS
  have HQ := hid (readP_ok t)
  obtain ⟨y, hy⟩ : ∃ y : ByteArray, y = ⟨(c0 :: c1 :: c2 :: c3 :: c4 :: t).toArray⟩ := ⟨_, rfl⟩
  cases hok' : ok
  · have HM : Hid (∀ wx, Calls Tryz.prog 29 #[.string y] wx fun e w' => e = .returned (.tuple #[.agg #[.string ⟨#[]⟩, .int .i64 0, .int .i64 0, .int .i64 0], .agg Pc.empty.arr, .bool false]) ∧ Blw wx w') := by
      intro wx
      rw [hy]
      exact readMsg_any c0 c1 c2 c3 c4 t false _ _ wx hl (by rw [← hok', hok]) (fun e => by cases e) (fun _ => ⟨rfl, rfl⟩)
    obtain ⟨e1, e2, e3, e4⟩ := hS.h5 hok'
    subst e1 e2 e3 e4
    rw [← hy]
    clear hy hok hS S h ht hl hx HQ hok'
    go_enter Tryz.func18, Tryz.ntmps18
    go_wp2_with fail
    refine (HM.out _).mono ?_
    rintro e w1 ⟨rfl, b1⟩
    obtain ⟨k1, k2, k3, k4⟩ := two_boxes w1 (.string ⟨#[]⟩) (.int .i64 0) (.int .i64 0) (.int .i64 0) Pc.empty
    have K3 := hid (b1.tr k3)
    clear k1 k2 k3 b1
    go_wp2
    go_ret2
    exact ⟨rfl, ⟨K3.out.bk' H.out, K3.out.bx b⟩⟩
  · obtain ⟨fr, hfr⟩ : ∃ fr, fr = c1.toNat - 48 := ⟨_, rfl⟩
    obtain ⟨tt, htt⟩ : ∃ tt, tt = c2.toNat - 48 := ⟨_, rfl⟩
    obtain ⟨cn, hcn⟩ : ∃ cn, cn = (c3.toNat - 48) * 10 + (c4.toNat - 48) := ⟨_, rfl⟩
    have hb : fr < 3 ∧ tt < 3 ∧ cn < 100 := by
      rw [hok'] at hok
      have h1 := hok.symm
      simp only [hdOk, Bool.and_eq_true] at h1
      have a1 := (isRepB_iff _).1 h1.1.1
      have a2 := (isRepB_iff _).1 h1.1.2.1
      have a3 := (isDigB_iff _).1 h1.1.2.2.1
      have a4 := (isDigB_iff _).1 h1.1.2.2.2
      omega
    have HM : Hid (∀ wx, Calls Tryz.prog 29 #[.string y] wx fun e w' => e = .returned (.tuple #[.agg #[.string ⟨#[c0]⟩, .int .i64 fr, .int .i64 tt, .int .i64 cn], .agg (readP t).arr, .bool true]) ∧ Blw wx w') := by
      intro wx
      rw [hy, hfr, htt, hcn]
      exact readMsg_any c0 c1 c2 c3 c4 t true _ _ wx hl (by rw [← hok', hok]) (fun _ => ⟨rfl, rfl⟩) (fun e => by cases e)
    rw [← hfr, ← htt, ← hcn] at S
    rw [← hy]
    have hsm := hx
    have HF := hid (fun wx hw => isForMe_any b me n fr tt cn [c0] p x wx hw)
    have HC := hid (fun wx hw => checkPiece_any b me n p (readP t) x wx hn hw)
    have HN := hid (fun wx hw => hasNews_any b me n p (readP t) x wx hw)
    have HL := hid (fun wx ht' hw => learn_any b me n p (readP t) x wx HQ.out hsm ht' hw)
    have HT := hid (fun wx => headText_any 65 me fr cn wx (by omega) (by omega) hb.2.2)
    unfold headArr at HF HT
    clear hy hok hS h ht hl hx hfr htt hcn HQ
    generalize readP t = q at *
    generalize forMe me n fr tt = fm at *
    generalize checkE n p q = ce at *
    generalize decide (p.dots < (p.join q).dots) = nw at *
    go_enter Tryz.func18, Tryz.ntmps18
    go_wp2_with fail
    refine (HM.out _).mono ?_
    rintro e w1 ⟨rfl, b1⟩
    obtain ⟨k1, k2, k3, k4⟩ := two_boxes w1 (.string ⟨#[c0]⟩) (.int .i64 fr) (.int .i64 tt) (.int .i64 cn) q
    have K1 := hid k1
    have K2 := hid k2
    have B2 := hid (b1.tr k3)
    clear k1 k2 k3 b1
    go_upto_region 2 with fail
    generalize putRowAt ((w1.alloc (.cells #[.string ⟨#[c0]⟩, .int .i64 fr, .int .i64 tt, .int .i64 cn] 71)).alloc (.cells Tryz.zeroCells65 65)) (w1.heap.size + 1) 0 (.agg q.arr) = w2 at *
    clear k4
    have G2 := hid (B2.out.bk' H.out)
    generalize hb1 : w1.heap.size = hd at *
    clear hb1
    have d0 := blk_cell K1.out 0
    have d1 := blk_cell K1.out 1
    have d2 := blk_cell K1.out 2
    have d3 := blk_cell K1.out 3
    go_wp2_with fail
    refine (HF.out _ G2.out).mono ?_
    rintro e w3 ⟨rfl, b3⟩
    have G3 := hid (b3.bk' G2.out)
    have L3 := hid (b3.bk' K1.out)
    have P3 := hid (b3.bk' K2.out)
    have B3 := hid (B2.out.tr b3)
    clear b3 d0 d1 d2 d3 G2 K1 K2 B2
    cases fm
    · obtain ⟨e1, e2, e3, e4⟩ := S.out.h6 hok' (by trivial)
      subst e1 e2 e3 e4
      go_wp2
      go_ret2
      exact ⟨rfl, ⟨G3.out, B3.out.bx b⟩⟩
    · have hrow := rowOf_pc P3.out
      have hhas := Has_pc P3.out
      go_wp2_with fail
      refine (HC.out _ G3.out).mono ?_
      rintro e w4 ⟨rfl, b4⟩
      have G4 := hid (b4.bk' G3.out)
      have L4 := hid (b4.bk' L3.out)
      have P4 := hid (b4.bk' P3.out)
      have B4 := hid (B3.out.tr b4)
      clear b4 G3 L3 P3 B3 hrow hhas
      by_cases hce : ¬ ce = 0
      · obtain ⟨e1, e2, e3, e4⟩ := S.out.h7 hok' (by trivial) hce
        subst e2 e3 e4
        have E1 := hid e1
        have hcb : (ce == 0) = false := by simpa using hce
        have hcn : (ce != 0) = true := by rw [bne, hcb]; rfl
        clear e1
        go_wp2
        go_ret2
        exact ⟨by rw [E1.out]; rfl, ⟨G4.out, B4.out.bx b⟩⟩
      · have hce' : ce = 0 := Classical.byContradiction hce
        subst hce'
        have hrow := rowOf_pc P4.out
        have hhas := Has_pc P4.out
        go_wp2_with fail
        refine (HN.out _ G4.out).mono ?_
        rintro e w5 ⟨rfl, b5⟩
        have G5 := hid (b5.bk' G4.out)
        have L5 := hid (b5.bk' L4.out)
        have P5 := hid (b5.bk' P4.out)
        have B5 := hid (B4.out.tr b5)
        clear b5 G4 L4 P4 B4 hrow hhas
        cases nw
        · obtain ⟨e1, e2, e3, e4⟩ := S.out.h8 hok' (by trivial) (by trivial) (by trivial)
          subst e1 e2 e3 e4
          have B6 := hid ((Blw.rfl w5).al (.cells #[.string ⟨#[]⟩, .int .i64 0, .int .i64 0, .int .i64 0] 71))
          have d1 : w5.cell? ⟨hd, 1, none⟩ = some (.int .i64 fr) := blk_cell L5.out 1
          have d3 : w5.cell? ⟨hd, 3, none⟩ = some (.int .i64 cn) := blk_cell L5.out 3
          have m0 : w5.cell? ⟨b, 0, none⟩ = some (.int .i64 me) := blk_cell G5.out 0
          have d1' : (w5.alloc (.cells #[.string ⟨#[]⟩, .int .i64 0, .int .i64 0, .int .i64 0] 71)).cell? ⟨hd, 1, none⟩ = some (.int .i64 fr) := blk_cell (B6.out.bk' L5.out) 1
          have d3' : (w5.alloc (.cells #[.string ⟨#[]⟩, .int .i64 0, .int .i64 0, .int .i64 0] 71)).cell? ⟨hd, 3, none⟩ = some (.int .i64 cn) := blk_cell (B6.out.bk' L5.out) 3
          have m0' : (w5.alloc (.cells #[.string ⟨#[]⟩, .int .i64 0, .int .i64 0, .int .i64 0] 71)).cell? ⟨b, 0, none⟩ = some (.int .i64 me) := blk_cell (B6.out.bk' G5.out) 0
          go_upto_region 11 with fail
          go_region
          have B7 : Hid (Blw w5 (w5.alloc (.cells #[.string ⟨#[65]⟩, .int .i64 me, .int .i64 fr, .int .i64 cn] 71)).drew) := ((Blw.rfl _).al _).dr
          go_wp2_with fail
          refine (HT.out _).mono ?_
          rintro e w8 ⟨rfl, b8⟩
          have B8 := hid (B7.out.tr b8)
          clear b8
          go_wp2
          go_ret2
          exact ⟨rfl, ⟨B8.out.bk' G5.out, (B5.out.tr B8.out).bx b⟩⟩
        · obtain ⟨e1, e2, e3, e4⟩ := S.out.h9 hok' (by trivial) (by trivial) (by trivial)
          subst e1 e2 e3 e4
          have hrow := rowOf_pc P5.out
          have hhas := Has_pc P5.out
          go_wp2_with fail
          refine (HL.out _ (T.out.blw B5.out) G5.out).mono ?_
          rintro e w6 ⟨rfl, r6⟩
          have R6 := hid r6
          have L6 := hid ((r6.2.block hd (lt_of_blk L5.out) (ty_ne L5.out G5.out (by decide))).trans L5.out)
          clear r6 hrow hhas
          have B6 := hid ((Blw.rfl w6).al (.cells #[.string ⟨#[]⟩, .int .i64 0, .int .i64 0, .int .i64 0] 71))
          have d1 : w6.cell? ⟨hd, 1, none⟩ = some (.int .i64 fr) := blk_cell L6.out 1
          have d3 : w6.cell? ⟨hd, 3, none⟩ = some (.int .i64 cn) := blk_cell L6.out 3
          have m0 : w6.cell? ⟨b, 0, none⟩ = some (.int .i64 me) := blk_cell R6.out.1 0
          have d1' : (w6.alloc (.cells #[.string ⟨#[]⟩, .int .i64 0, .int .i64 0, .int .i64 0] 71)).cell? ⟨hd, 1, none⟩ = some (.int .i64 fr) := blk_cell (B6.out.bk' L6.out) 1
          have d3' : (w6.alloc (.cells #[.string ⟨#[]⟩, .int .i64 0, .int .i64 0, .int .i64 0] 71)).cell? ⟨hd, 3, none⟩ = some (.int .i64 cn) := blk_cell (B6.out.bk' L6.out) 3
          have m0' : (w6.alloc (.cells #[.string ⟨#[]⟩, .int .i64 0, .int .i64 0, .int .i64 0] 71)).cell? ⟨b, 0, none⟩ = some (.int .i64 me) := blk_cell (B6.out.bk' R6.out.1) 0
          go_upto_region 11 with fail
          go_region
          have B7 : Hid (Blw w6 (w6.alloc (.cells #[.string ⟨#[65]⟩, .int .i64 me, .int .i64 fr, .int .i64 cn] 71)).drew) := ((Blw.rfl _).al _).dr
          go_wp2_with fail
          refine (HT.out _).mono ?_
          rintro e w8 ⟨rfl, b8⟩
          have B8 := hid (B7.out.tr b8)
          clear b8
          go_wp2
          go_ret2
          exact ⟨rfl, ⟨B8.out.bk' R6.out.1, Bx.tr (Bx.tr (B5.out.bx b) R6.out.2) (B8.out.bx b)⟩⟩
end Go.Proofs.YtalaldfgjgpacaaGreatDoor
