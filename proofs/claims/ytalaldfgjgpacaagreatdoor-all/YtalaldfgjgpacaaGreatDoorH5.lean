import Derived.Test.YtalaldfgjgpacaaGreatDoorHC
import Derived.Deep.RegionWith
import Derived.Deep.RegionHeld3
import Derived.Deep.DeepCutAuto
namespace Go.Proofs.YtalaldfgjgpacaaGreatDoor
set_option linter.unusedVariables false
set_option linter.unusedSimpArgs false
open Go.RowKit
attribute [local go_sem ↓] Go.wp_at_zero Go.wp_at_succ

/-- Behind one frame of the document's. -/
structure FrameRes (cb me n : Nat) (ok : Bool) (p : Pc) (hd : Nat) (lt ac : Value) (dk : Bs) (w : World) (e : Ending) (w' : World) : Prop where
  e : e = .returned (.bool ok)
  bs : Bs2 (fun k => k = cb) w w'
  h : ok = true → ∃ a b D E, w'.heap[cb]? = some (.cells (refArr me n a b hd lt ac dk) 123) ∧ Ls w' 0 a D ∧ Ls w' 0 b E ∧ RelP p D E

/-- A piece that was read, beside the replica's own. -/
structure FB (w wr : World) (cb pb me n : Nat) (a b : Value) (had : Nat) (lt ac : Value) (dk : Bs) (a' b' : Value) (D E D' E' : List Bs) : Prop where
  c : wr.heap[cb]? = some (.cells (refArr me n a b had lt ac dk) 123)
  p : wr.heap[pb]? = some (.cells #[a', b'] 120)
  pa : PcAt wr a b D E
  pq : PcAt wr a' b' D' E'
  bl : Blw w wr

variable {w wr w' : World} {cb pb me n had : Nat} {a b lt ac a' b' : Value} {dk : Bs} {D E D' E' : List Bs}
theorem FB.on (h : FB w wr cb pb me n a b had lt ac dk a' b' D E D' E') (hb : Blw wr w') : FB w w' cb pb me n a b had lt ac dk a' b' D E D' E' :=
  ⟨hb.bk' h.c, hb.bk' h.p, h.pa.on hb, h.pq.on hb, h.bl.tr hb⟩
theorem FB.cells (h : FB w wr cb pb me n a b had lt ac dk a' b' D E D' E') : wr.cell? ⟨cb, 1, none⟩ = some (.int .i64 n) ∧ wr.cell? ⟨cb, 2, none⟩ = some a ∧ wr.cell? ⟨cb, 3, none⟩ = some b ∧ wr.cell? ⟨pb, 0, none⟩ = some a' ∧ wr.cell? ⟨pb, 1, none⟩ = some b' :=
  ⟨(ref_n h.c).2.1, (ref_n h.c).2.2.1, (ref_n h.c).2.2.2.1, blk_cell h.p 0, blk_cell h.p 1⟩
theorem FB.start {w1 : World} (hc : w.heap[cb]? = some (.cells (refArr me n a b had lt ac dk) 123)) (pa : PcAt w a b D E) (bl : Blw w w1) (pq : PcAt w1 a' b' D' E') :
    FB w (w1.alloc (.cells #[a', b'] 120)) cb w1.heap.size me n a b had lt ac dk a' b' D E D' E' := by
  have bz : Blw w1 (w1.alloc (.cells #[a', b'] 120)) := (Blw.rfl w1).al _
  exact ⟨(bl.tr bz).bk' hc, hp_new w1 _, pa.on (bl.tr bz), pq.on bz, bl.tr bz⟩

theorem put2A {w5 w6 : World} {u v : Value} {X Y : List Bs} (b6 : Blw w5.drew w6) (j1 : Ls w6 0 u X) (j2 : Ls w6 0 v Y) :
    (w6.alloc (.cells #[u, v] 120)).heap[w6.heap.size]? = some (.cells #[u, v] 120) ∧
    Ls (w6.alloc (.cells #[u, v] 120)) 0 u X ∧ Ls (w6.alloc (.cells #[u, v] 120)) 0 v Y ∧
    Blw w5 (w6.alloc (.cells #[u, v] 120)) := by
  have bz : Blw w6 (w6.alloc (.cells #[u, v] 120)) := (Blw.rfl w6).al _
  exact ⟨hp_new w6 _, j1.on bz, j2.on bz, (Blw.dr (Blw.rfl w5)).tr (b6.tr bz)⟩
theorem put2B {w5 w6 : World} {u v : Value} {X Y : List Bs} (b6 : Blw (w5.alloc (.cells #[.slice none 0 0, .slice none 0 0] 120)).drew w6) (j1 : Ls w6 0 u X) (j2 : Ls w6 0 v Y) :
    ((w6.setCell ⟨w5.heap.size, 0, none⟩ u).setCell ⟨w5.heap.size, 1, none⟩ v).heap[w5.heap.size]? = some (.cells #[u, v] 120) ∧
    Ls ((w6.setCell ⟨w5.heap.size, 0, none⟩ u).setCell ⟨w5.heap.size, 1, none⟩ v) 0 u X ∧ Ls ((w6.setCell ⟨w5.heap.size, 0, none⟩ u).setCell ⟨w5.heap.size, 1, none⟩ v) 0 v Y ∧
    Blw w5 ((w6.setCell ⟨w5.heap.size, 0, none⟩ u).setCell ⟨w5.heap.size, 1, none⟩ v) := by
  have K : w6.heap[w5.heap.size]? = some (.cells #[.slice none 0 0, .slice none 0 0] 120) := b6.bk' (show (w5.alloc _).drew.heap[w5.heap.size]? = _ from hp_new w5 _)
  have bl : Blw w5 w6 := (((Blw.rfl w5).al _).dr).tr b6
  refine ⟨?_, (j1.sc K (by decide) _).sc (heap_setCell_self K _) (by decide) _, (j2.sc K (by decide) _).sc (heap_setCell_self K _) (by decide) _, (bl.sc _ _ _ (Nat.le_refl _)).sc _ _ _ (Nat.le_refl _)⟩
  rw [heap_setCell_self (heap_setCell_self K u) v]; rfl
theorem cellB {w5 w6 : World} (b6 : Blw (w5.alloc (.cells #[.slice none 0 0, .slice none 0 0] 120)).drew w6) : w6.cell? ⟨w5.heap.size, 0, none⟩ = some (.slice none 0 0) ∧ w6.cell? ⟨w5.heap.size, 1, none⟩ = some (.slice none 0 0) ∧ w6.frozen? ⟨w5.heap.size, 0, none⟩ = false ∧ w6.frozen? ⟨w5.heap.size, 1, none⟩ = false := by
  have K : w6.heap[w5.heap.size]? = some (.cells #[.slice none 0 0, .slice none 0 0] 120) := b6.bk' (show (w5.alloc _).drew.heap[w5.heap.size]? = _ from hp_new w5 _)
  exact ⟨blk_cell K 0, blk_cell K 1, blk_frozen K 0, blk_frozen K 1⟩


set_option maxRecDepth 100000 in
set_option maxHeartbeats 8000000 in
theorem rframe_D (cb me n : Nat) (a b : Value) (had : Nat) (lt ac : Value) (dk : Bs) (D E : List Bs) (p pp : Pc) (hh : Nat) (t : Bs) (first ok : Bool) (w : World) (hl : t.length ≤ 90000) (hn : n ≤ 3) (hhd : had ≤ 1000000000)
    (hc : w.heap[cb]? = some (.cells (refArr me n a b had lt ac dk) 123)) (ha : Ls w 0 a D) (hb : Ls w 0 b E) (hRel : RelP p D E) (hp : p.fine) (hok : ok = (readOk t && (fitsB n p (readP t) && decide (p.dots < (p.join (readP t)).dots)))) (hph : ok = true → pp = p.join (readP t) ∧ hh = had + 1) :
    Calls Tryz.prog 87 #[.pointer (some ⟨cb, 0, none⟩), .string ⟨(68 :: t).toArray⟩, .bool first] w fun e w' => FrameRes cb me n ok pp hh lt ac dk w e w' := by
  have HFi := hid hp
  have HRel := hid hRel
  have HC := hid hc
  have HPa := hid (hRel.pcAt hp.ok ha hb)
  obtain ⟨ao, ca, rfl, _⟩ := ha.op
  obtain ⟨bo, cb', rfl, _⟩ := hb.op
  have OKE := hid hok
  have HPH := hid hph
  obtain ⟨y, hy⟩ : ∃ y : ByteArray, y = ⟨(68 :: t).toArray⟩ := ⟨_, rfl⟩
  have hys : y.size = t.length + 1 := by rw [hy, bs_size]; rfl
  have h0y : 0 < y.size := by omega
  have hb0 : y[0]'h0y = 68 := by subst hy; rfl

  have HXt : Hid (y.extract 1 y.size = ByteArray.mk t.toArray) := by
    show _ = _
    rw [hys, hy]
    exact (bs_extract (68 :: t) 1 _).trans (by simp)
  have HR := hid (fun wx => rread_any t wx (by omega))
  have HYS := hid hys
  have g1 : 1 ≤ y.size := by omega
  have g1' : (1 : Int) ≤ (y.size : Int) := by omega
  have g0 : ((y.size : Int) == 0) = false := by rw [beq_eq_false_iff_ne]; omega
  have g0' : (y.size == 0) = false := by rw [beq_eq_false_iff_ne]; omega
  rw [← hy]
  clear hy hys hc ha hb hRel hp hok hph hl
  go_enter Tryz.func87, Tryz.ntmps87
  go_wp2_with fail
  rw [HXt.out]
  refine (HR.out _).mono ?_
  rintro e w1 ⟨b1, hres⟩
  have B1 := hid b1
  rcases hres with ⟨a', b', D', E', rfl, j1, j2, hG⟩ | ⟨rfl, hno⟩
  · have hrok := good_read hG
    obtain ⟨q1, q2, q3⟩ := good_readP hG
    have PQ := hid (q1.pcAt q2.ok j1 j2)
    obtain ⟨ao', ca', rfl, _⟩ := j1.op
    obtain ⟨bo', cb2, rfl, _⟩ := j2.op
    have FO : Hid (D'.any (foreignF (n : Int)) = !ofTo (readP t) n 3) := q1.foreign n
    have BR : Hid (D'.any (bringsF D) = decide (p.dots < (p.join (readP t)).dots)) := HRel.out.brings q1
    have CL : Hid (E'.any (clashE E) = clashTo p (readP t) 27) := HRel.out.clash q1 HFi.out.ok q2.ok
    have rj := rel_join HRel.out q1 HFi.out q2
    have HO : Hid ((joinD D D').any (holeF (joinD D D')) = (p.join (readP t)).holeTo 27) := rj.hole
    have RJ := hid rj
    have JF := hid (join_fine HFi.out q2)
    have LD : Hid (D'.length = (readP t).dots) := q1.lenDots q2.ok
    have ldb : D'.length ≤ 1000 := by have := q1.lenD q2.ok; omega
    have HFo := hid (fun wx hx => foreign_any (.slice ao' D'.length ca') (.slice bo' E'.length cb2) D' E' (n : Int) wx hx)
    have HBr := hid (fun wx hx hx' => brings_any (.slice ao D.length ca) (.slice bo E.length cb') (.slice ao' D'.length ca') (.slice bo' E'.length cb2) D E D' E' wx hx hx')
    have HCl := hid (fun wx hx hx' => rclash_any (.slice ao D.length ca) (.slice bo E.length cb') (.slice ao' D'.length ca') (.slice bo' E'.length cb2) D E D' E' wx hx hx')
    have HJ := hid (fun wx hx hx' => rjoin_any (.slice ao D.length ca) (.slice bo E.length cb') (.slice ao' D'.length ca') (.slice bo' E'.length cb2) D E D' E' wx hx hx')
    have HHo := hid (fun u v wx hx => rhole_any u v (joinD D D') (joinE D E D' E') wx hx)
    have OKF := hid (OKE.out)
    simp only [hrok, Bool.true_and] at OKF
    have FI : Hid (fitsB n p (readP t) = (!(D'.any (foreignF (n : Int))) && (!(E'.any (clashE E)) && !((joinD D D').any (holeF (joinD D D')))))) := by
      show _ = _
      rw [FO.out, CL.out, HO.out, Bool.not_not]; rfl
    rw [FI.out] at OKF
    rw [← BR.out] at OKF
    clear FI FO BR CL HO OKE hrok
    generalize D'.any (foreignF (n : Int)) = fo at *
    generalize D'.any (bringsF D) = br at *
    generalize E'.any (clashE E) = cl at *
    generalize (joinD D D').any (holeF (joinD D D')) = ho at *
    go_upto_region 11 with fail
    have W2 := hid (FB.start HC.out HPa.out B1.out PQ.out)
    generalize w1.alloc (.cells #[.slice ao' D'.length ca', .slice bo' E'.length cb2] 120) = w2 at *
    generalize w1.heap.size = pb at *
    obtain ⟨c1, c2, c3, p0, p1⟩ := W2.out.cells
    go_wp2_with fail
    go_region_held3 (fun w' => w'.cell? ⟨cb, 1, none⟩ = some (.int .i64 n) ∧ w'.cell? ⟨cb, 2, none⟩ = some (.slice ao D.length ca) ∧ w'.cell? ⟨cb, 3, none⟩ = some (.slice bo E.length cb') ∧ w'.cell? ⟨pb, 0, none⟩ = some (.slice ao' D'.length ca') ∧ w'.cell? ⟨pb, 1, none⟩ = some (.slice bo' E'.length cb2)) (first | exact Q1.out | exact ⟨c1, c2, c3, p0, p1⟩)
      (first | (go_at_call 110; refine (HFo.out _ (W2.out.pq.on (Blw.dr (Blw.rfl _)))).mono ?_; rintro e w3 ⟨rfl, bq⟩; have BQ := hid (Blw.tr (Blw.dr (Blw.rfl _)) bq); have W3 := hid (W2.out.on BQ.out); have Q1 := hid W3.out.cells; clear bq))
    clear c1 c2 c3 p0 p1 Q1 BQ
    obtain ⟨c1, c2, c3, p0, p1⟩ := W3.out.cells
    go_wp2_with fail
    go_region_held3 (fun w' => w'.cell? ⟨cb, 1, none⟩ = some (.int .i64 n) ∧ w'.cell? ⟨cb, 2, none⟩ = some (.slice ao D.length ca) ∧ w'.cell? ⟨cb, 3, none⟩ = some (.slice bo E.length cb') ∧ w'.cell? ⟨pb, 0, none⟩ = some (.slice ao' D'.length ca') ∧ w'.cell? ⟨pb, 1, none⟩ = some (.slice bo' E'.length cb2)) (first | exact Q1.out | exact ⟨c1, c2, c3, p0, p1⟩)
      (first | (go_at_call 114; refine (HBr.out _ (W3.out.pa.on (Blw.dr (Blw.rfl _))) (W3.out.pq.on (Blw.dr (Blw.rfl _)))).mono ?_; rintro e w4 ⟨rfl, bq⟩; have BQ := hid (Blw.tr (Blw.dr (Blw.rfl _)) bq); have W4 := hid (W3.out.on BQ.out); have Q1 := hid W4.out.cells; clear bq))
    clear c1 c2 c3 p0 p1 Q1 BQ
    obtain ⟨c1, c2, c3, p0, p1⟩ := W4.out.cells
    go_wp2_with fail
    go_region_held3 (fun w' => w'.cell? ⟨cb, 1, none⟩ = some (.int .i64 n) ∧ w'.cell? ⟨cb, 2, none⟩ = some (.slice ao D.length ca) ∧ w'.cell? ⟨cb, 3, none⟩ = some (.slice bo E.length cb') ∧ w'.cell? ⟨pb, 0, none⟩ = some (.slice ao' D'.length ca') ∧ w'.cell? ⟨pb, 1, none⟩ = some (.slice bo' E'.length cb2)) (first | exact Q1.out | exact ⟨c1, c2, c3, p0, p1⟩)
      (first | (go_at_call 113; refine (HCl.out _ (W4.out.pa.on (Blw.dr (Blw.rfl _))) (W4.out.pq.on (Blw.dr (Blw.rfl _)))).mono ?_; rintro e w5 ⟨rfl, bq⟩; have BQ := hid (Blw.tr (Blw.dr (Blw.rfl _)) bq); have W5 := hid (W4.out.on BQ.out); have Q1 := hid W5.out.cells; clear bq))
    clear c1 c2 c3 p0 p1 Q1 BQ
    obtain ⟨c1, c2, c3, p0, p1⟩ := W5.out.cells
    have z0 := lt_of_blk W5.out.c
    have z1 := lt_of_blk W5.out.p
    go_wp2_with fail
    go_cut [13] (fun s w' => ∃ jb u v, s = .pointer (some ⟨jb, 0, none⟩) ∧ w'.heap[jb]? = some (.cells #[u, v] 120) ∧ Ls w' 0 u (joinD D D') ∧ Ls w' 0 v (joinE D E D' E') ∧ Blw w5 w')
    case first =>
      go_region_with (first | (go_at_call 111; refine (HJ.out _ (W5.out.pa.on (by first | exact Blw.dr (Blw.rfl _) | exact Blw.dr ((Blw.rfl _).al _))) (W5.out.pq.on (by first | exact Blw.dr (Blw.rfl _) | exact Blw.dr ((Blw.rfl _).al _)))).mono ?_; rintro e w6 ⟨u, v, rfl, k1, k2, b6⟩; obtain ⟨uo, uc, rfl, _⟩ := k1.op; obtain ⟨vo, vc, rfl, _⟩ := k2.op; have sz6 : w5.heap.size ≤ w6.heap.size := (by have := b6.sz; simp at this; omega); (first | (have R := hid (put2B b6 k1 k2); obtain ⟨y0, y1, y2, y3⟩ := cellB b6) | (have R := hid (put2A b6 k1 k2)))))
      all_goals
        go_wp2_with fail
        go_meet
        case rel => exact ⟨_, _, _, rfl, R.out.1, R.out.2.1, R.out.2.2.1, R.out.2.2.2⟩
    case rest =>
      obtain ⟨jb, u, v, rfl, g1, g2, g3, g4⟩ := hcut
      obtain ⟨uo, uc, rfl, _⟩ := g2.op
      obtain ⟨vo, vc, rfl, _⟩ := g3.op
      have W6 := hid (W5.out.on g4)
      have PJ := hid (RJ.out.pcAt JF.out.ok g2 g3)
      have G1 := hid g1
      have d0 := blk_cell g1 0
      have d1 := blk_cell g1 1
      clear c1 c2 c3 p0 p1 g1 g2 g3 g4 z0 z1
      generalize (joinD D D').length = jl at *
      generalize (joinE D E D' E').length = el at *
      go_wp2_with fail
      refine (HHo.out _ _ _ PJ.out).mono ?_
      rintro e w7 ⟨rfl, b7⟩
      have W7 := hid (W6.out.on b7)
      have G7 := hid (b7.bk' G1.out)
      have P7 := hid (PJ.out.on b7)
      clear d0 d1 G1 PJ W6 b7
      cases fo
      · cases ho
        · cases cl
          · cases br
            · have OKX : Hid (ok = false) := by show _ = _; rw [OKF.out]; rfl
              go_wp2
              go_ret
              exact ⟨by rw [OKX.out]; rfl, W7.out.bl.b2 _, fun h => by rw [OKX.out] at h; cases h⟩
            · have OKX : Hid (ok = true) := by show _ = _; rw [OKF.out]; rfl
              have q4 := (ref_n W7.out.c).2.2.2.2.1
              have f4 := blk_frozen W7.out.c 4
              have HE : Hid ((((had + 1 : Nat)) : Int) = (had : Int) + 1) := by show (((had + 1 : Nat)) : Int) = _; omega
              have k1 := hid (ref_put_had W7.out.c (had + 1))
              have k2 := hid ((Below.heap_setCell w7 ⟨cb, 4, none⟩ (.int .i64 ((had + 1 : Nat) : Int)) jb (show jb ≠ cb from ty_ne G7.out W7.out.c (by decide))).trans G7.out)
              have k3 := hid (P7.out.d.sc (o := 4) W7.out.c (by decide) (.int .i64 ((had + 1 : Nat) : Int)))
              have k4 := hid (P7.out.e.sc (o := 4) W7.out.c (by decide) (.int .i64 ((had + 1 : Nat) : Int)))
              have k6 := hid ((W7.out.bl.b2 (fun k => k = cb)).sc cb 4 (.int .i64 ((had + 1 : Nat) : Int)) (.inl rfl))
              rw [HE.out] at k1 k2 k3 k4 k6
              go_upto_region 25 with fail
              generalize hw8 : w7.setCell ⟨cb, 4, none⟩ (.int .i64 ((had : Int) + 1)) = w8 at *
              clear q4 f4 hw8
              have d0 : w8.cell? ⟨jb, 0, none⟩ = some (.slice uo jl uc) := blk_cell k2.out 0
              have d1 : w8.cell? ⟨jb, 1, none⟩ = some (.slice vo el vc) := blk_cell k2.out 1
              have e2 := (ref_n k1.out).2.2.1
              have e3 := (ref_n k1.out).2.2.2.1
              have f2 := blk_frozen k1.out 2
              have f3 := blk_frozen k1.out 3
              have FN : Hid (FrameRes cb me n ok pp hh lt ac dk w (.returned (.bool true)) ((w8.setCell ⟨cb, 2, none⟩ (.slice uo jl uc)).setCell ⟨cb, 3, none⟩ (.slice vo el vc))) := by
                refine ⟨by rw [OKX.out], (k6.out.sc cb _ _ (.inl rfl)).sc cb _ _ (.inl rfl), fun _ => ⟨_, _, _, _, ?_, (k3.out.sc k1.out (by decide) _).sc (heap_setCell_self k1.out _) (by decide) _, (k4.out.sc k1.out (by decide) _).sc (heap_setCell_self k1.out _) (by decide) _, ?_⟩⟩
                · rw [(HPH.out OKX.out).2]; exact ref_put2 k1.out _ _
                · rw [(HPH.out OKX.out).1]; exact RJ.out
              go_wp2
              go_ret
              exact FN.out
          · have OKX : Hid (ok = false) := by show _ = _; rw [OKF.out]; simp
            go_wp2
            go_ret
            exact ⟨by rw [OKX.out]; rfl, W7.out.bl.b2 _, fun h => by rw [OKX.out] at h; cases h⟩
        · have OKX : Hid (ok = false) := by show _ = _; rw [OKF.out]; simp
          go_wp2
          go_ret
          exact ⟨by rw [OKX.out]; rfl, W7.out.bl.b2 _, fun h => by rw [OKX.out] at h; cases h⟩
      · have OKX : Hid (ok = false) := by show _ = _; rw [OKF.out]; simp
        go_wp2
        go_ret
        exact ⟨by rw [OKX.out]; rfl, W7.out.bl.b2 _, fun h => by rw [OKX.out] at h; cases h⟩
  · have OKX : Hid (ok = false) := by show _ = _; rw [OKE.out, noread hno]; simp
    go_wp2
    go_ret
    exact ⟨by rw [OKX.out]; rfl, (B1.out.al _).b2 _, fun h => by rw [OKX.out] at h; cases h⟩

end Go.Proofs.YtalaldfgjgpacaaGreatDoor
