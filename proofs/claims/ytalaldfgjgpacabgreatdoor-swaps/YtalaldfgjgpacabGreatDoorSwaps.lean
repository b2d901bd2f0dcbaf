import Derived.Test.YtalaldfgjgpacabGreatDoorHAV
import Derived.Test.YtalaldfgjgpacabGreatDoorQB
import Derived.Test.YtalaldfgjgpacabGreatDoorQF
import Derived.Test.YtalaldfgjgpacabGreatDoorQG
import Derived.Test.YtalaldfgjgpacabGreatDoorChecked
import Derived.BigQuiet
namespace Go.Proofs.YtalaldfgjgpacabGreatDoor
set_option linter.unusedVariables false
set_option linter.unusedSimpArgs false
open Go.RowKit
attribute [local go_sem ↓] Go.wp_at_zero Go.wp_at_succ

open Go.ChangeShapes Go.WideShapes Go.ChangeAt Go.Deep

set_option maxRecDepth 100000 in
set_option maxHeartbeats 16000000 in
/-- Swaps, whatever the script and the numbers. -/
theorem swaps_all (v : Value) (a1 a2 a3 : Int) (w : World) (ht : Tab Tryz.prog w) {ad : Option Addr} {len cap : Nat} {ops : Nat → OpR} (h : ScriptAt w v ad len cap ops) (h1 : i64ok a1) (h2 : i64ok a2) (h3 : i64ok a3) :
    Calls Tryz.prog 8 #[v, .int .i64 a1, .int .i64 a2, .int .i64 a3] w fun e w' => e = .returned (.bool true) ∧ Below w.heap.size w w' := by
  have HSM := hid (small_at h)
  have HH := hid h
  have HT := hid ht
  have H23 := hid (And.intro h2 h3)
  clear h ht h2 h3
  go_enter Tryz.func8, Tryz.ntmps8
  go_wp2_with fail
  refine HSM.out.mono ?_
  rintro e w2 ⟨he, hw2⟩
  subst w2
  rcases he with ⟨rfl, hlen⟩ | rfl
  · by_cases c1 : a1 < 1
    · have d1 : decide (a1 < 1) = true := by simpa using c1
      clear c1 h1
      go_wp2
      go_ret
      exact ⟨rfl, Blw.rfl w⟩
    · have d1 : decide (a1 < 1) = false := by simpa using c1
      by_cases c3 : 3 < a1
      · have d3 : decide (3 < a1) = true := by simpa using c3
        clear c1 c3 h1
        go_wp2
        go_ret
        exact ⟨rfl, Blw.rfl w⟩
      · have d3 : decide (3 < a1) = false := by simpa using c3
        obtain ⟨n, rfl⟩ : ∃ n : Nat, a1 = (n : Int) := ⟨a1.toNat, by omega⟩
        have HRN := hid (runs_0 (fun _ => True) ops len cap n ad 0 13 w (by omega) (by omega) (.inl rfl) hlen HH.out.ok trivial (fun _ _ _ _ _ _ _ => trivial) HH.out.lies HT.out)
        rw [← HH.out.val] at HRN
        have hn3 : n ≤ 3 := by omega
        clear c1 c3 h1
        go_wp2_with fail
        refine HRN.out.mono ?_
        rintro e w3 ⟨rfl, m, s, hR⟩
        have HR := hid hR
        have hwn : s.wire.length ≤ 10000000 := Nat.le_trans hR.ran.wi (by omega)
        by_cases hw0 : s.wire = []
        · obtain ⟨ea, ec, hwv, hwl⟩ := ownsRow_form hR.cl.wi.o
          have hz : s.wire.length = 0 := by rw [hw0]; rfl
          have c5 : w3.cell? ⟨w.heap.size, 5, none⟩ = some (.slice ea 0 ec) := by rw [← hR.cb, hR.cl.cell, ← hz, ← hwv]; rfl
          have B3 := hid hR.bl
          clear hR hwv hwl hwn hw0 hz
          go_wp2
          go_ret
          exact ⟨rfl, B3.out⟩
        obtain ⟨g2, cp2, hwv, _, _⟩ := World.ownsRow.form hR.cl.wi.o (List.length_pos_iff.2 hw0)
        have c5 : w3.cell? ⟨w.heap.size, 5, none⟩ = some (.slice (some ⟨g2, 0, none⟩) s.wire.length cp2) := by rw [← hR.cb, hR.cl.cell, ← hwv]; rfl
        obtain ⟨le1, uo1, ul1, uc1, hm1, hn1⟩ := wire_nth hR.cl hR.ran.inv hw0 hwn a2 H23.out.1 hwv
        obtain ⟨le2, uo2, ul2, uc2, hm2, hn2⟩ := wire_nth hR.cl hR.ran.inv hw0 hwn a3 H23.out.2 hwv
        obtain ⟨E, V, hC⟩ := hR.ran.inv.core
        have hnn := hR.hn
        have hC1 := hC.wire le1 hm1
        have hC2 := hC.wire le2 hm2
        obtain ⟨k1, cn1, D1, A1, q1, t1, b1, _, _, gd1, al1, _, fd1, id1, _⟩ := WireOk.msg hC hC1
        obtain ⟨k2, cn2, D2, A2, q2, t2, b2, _, _, gd2, al2, _, fd2, id2, _⟩ := WireOk.msg hC hC2
        have u1b : Bnd s.n le1.knows := (hC.rep _ hC1.f).bnd.le (WireOk.kle hC hC1)
        have u2b : Bnd s.n le2.knows := (hC.rep _ hC2.f).bnd.le (WireOk.kle hC hC2)
        have u1g : GoodE E le1.knows := (hC.rep _ hC1.f).good.le (WireOk.kle hC hC1)
        have u2g : GoodE E le2.knows := (hC.rep _ hC2.f).good.le (WireOk.kle hC hC2)
        obtain ⟨len', hlen'⟩ : ∃ x, x = s.wire.length := ⟨_, rfl⟩
        have hpos : 0 < len' := by rw [hlen']; exact List.length_pos_iff.2 hw0
        rw [← hlen'] at c5
        rw [hR.cb, ← hlen'] at hn1 hn2
        have HN1 := hid hn1
        have HN2 := hid hn2
        obtain ⟨d, hd⟩ : ∃ x, x = le1.dst := ⟨_, rfl⟩
        obtain ⟨d', hd'⟩ : ∃ x, x = le2.dst := ⟨_, rfl⟩
        obtain ⟨f1, hf1⟩ : ∃ x, x = le1.frm := ⟨_, rfl⟩
        obtain ⟨f2, hf2⟩ : ∃ x, x = le2.frm := ⟨_, rfl⟩
        obtain ⟨X1, hX1⟩ : ∃ x : ByteArray, x = ⟨le1.text.toArray⟩ := ⟨_, rfl⟩
        obtain ⟨X2, hX2⟩ : ∃ x : ByteArray, x = ⟨le2.text.toArray⟩ := ⟨_, rfl⟩
        rw [← hd, ← hf1, ← hX1] at HN1
        rw [← hd', ← hf2, ← hX2] at HN2
        have hlI : ((len' : Int) == 0) = false := by simp; omega
        have HC := hid hC
        have P1 := hid (show f1 < s.n ∧ d < s.n ∧ f1 ≠ d by rw [hf1, hd]; exact ⟨hC1.f, hC1.t, hC1.ne⟩)
        have P2 := hid (show f2 < s.n ∧ d' < s.n ∧ f2 ≠ d' by rw [hf2, hd']; exact ⟨hC2.f, hC2.t, hC2.ne⟩)
        have G1 := hid (show X1 = ⟨(headL k1 f1 d cn1 ++ D1.text).toArray⟩ ∧ (k1 = 73 ∨ k1 = 70) ∧ cn1 < 100 ∧ GoodD E A1 le1.knows D1 ∧ Vec.le A1 (s.K d) by rw [hX1, t1, hf1, hd]; exact ⟨rfl, q1, b1, gd1, al1⟩)
        have G2 := hid (show X2 = ⟨(headL k2 f2 d' cn2 ++ D2.text).toArray⟩ ∧ (k2 = 73 ∨ k2 = 70) ∧ cn2 < 100 ∧ GoodD E A2 le2.knows D2 ∧ Vec.le A2 (s.K d') by rw [hX2, t2, hf2, hd']; exact ⟨rfl, q2, b2, gd2, al2⟩)
        have UU := hid (And.intro u1b (And.intro u2b (And.intro u1g u2g)))
        clear hwv hwn hw0 hm1 hm2 hn1 hn2 hC hC1 hC2 q1 t1 b1 gd1 al1 fd1 id1 q2 t2 b2 gd2 al2 fd2 id2 u1b u2b u1g u2g hpos hlen' hd hd' hf1 hf2 hX1 hX2 hR
        go_wp2_with fail
        refine (HN1.out _ (Blw.rfl w3)).mono ?_
        rintro e w4 ⟨rfl, b4⟩
        obtain ⟨W4, hW4⟩ : ∃ W4, W4 = w4.alloc (.cells #[.string X1, .int .i64 f1, .int .i64 d, .slice uo1 ul1 uc1] 48) := ⟨_, rfl⟩
        have B4 : Blw w3 W4 := by rw [hW4]; exact b4.al _
        have l4 : W4.heap[w4.heap.size]? = some (.cells #[.string X1, .int .i64 f1, .int .i64 d, .slice uo1 ul1 uc1] 48) := by rw [hW4]; exact hp_new w4 _
        have c5' : (w4.alloc (.cells #[.string X1, .int .i64 f1, .int .i64 d, .slice uo1 ul1 uc1] 48)).cell? ⟨w.heap.size, 5, none⟩ = some (.slice (some ⟨g2, 0, none⟩) len' cp2) := by rw [← hW4]; exact cell_blw B4 c5
        have HW4 := hid hW4
        have HB4 := hid (And.intro B4 l4)
        clear b4 hW4 B4 l4 c5
        go_wp2_with fail
        rw [← HW4.out]
        refine (HN2.out _ HB4.out.1).mono ?_
        rintro e w5 ⟨rfl, b5⟩
        obtain ⟨W5, hW5⟩ : ∃ W5, W5 = w5.alloc (.cells #[.string X2, .int .i64 f2, .int .i64 d', .slice uo2 ul2 uc2] 48) := ⟨_, rfl⟩
        have B5 : Blw W4 W5 := by rw [hW5]; exact b5.al _
        have l5 : W5.heap[w5.heap.size]? = some (.cells #[.string X2, .int .i64 f2, .int .i64 d', .slice uo2 ul2 uc2] 48) := by rw [hW5]; exact hp_new w5 _
        have l4' := B5.bk' HB4.out.2
        obtain ⟨lp, hlp⟩ : ∃ lp, lp = w4.heap.size := ⟨_, rfl⟩
        obtain ⟨lq, hlq⟩ : ∃ lq, lq = w5.heap.size := ⟨_, rfl⟩
        have HLP := hid hlp
        have HLQ := hid hlq
        have B35 := hid (HB4.out.1.tr B5)
        have z2 : (w5.alloc (.cells #[.string X2, .int .i64 f2, .int .i64 d', .slice uo2 ul2 uc2] 48)).cell? ⟨w4.heap.size, 2, none⟩ = some (.int .i64 d) := by rw [← hW5, blk_cell l4']; rfl
        have HLL := hid (And.intro l4' l5)
        have HW5 := hid hW5
        clear b5 hW5 B5 l5 l4' c5' hlp hlq
        by_cases hdd : d = d'
        · subst hdd
          have hdI : ((d : Int) == (d : Int)) = true := by simp
          have P0 := P1.out
          have hdn : d < n := by rw [← hnn]; exact P0.2.1
          have hd0 : (0 : Int) ≤ (d : Int) := Int.natCast_nonneg _
          have hd1 : (d : Int) < (n : Int) := by omega
          have CL5 := hid (HR.out.cl.blw B35.out)
          have hdn' : d < s.n := P0.2.1
          have x2 : W5.cell? ⟨w.heap.size, 2, none⟩ = some (.slice (some ⟨m.xb, 0, none⟩) n m.cx) := by rw [← HR.out.cb, CL5.out.cell, ← hnn]; rfl
          have xk : W5.cell? ⟨m.xb, d, none⟩ = some (.pointer (some ⟨m.b d, 0, none⟩)) := CL5.out.x0 hdn'
          have z2' : W5.cell? ⟨w4.heap.size, 2, none⟩ = some (.int .i64 d) := by rw [HW5.out]; exact z2
          have hi := HC.out.rep d hdn'
          have n3' : s.n ≤ 3 := by omega
          obtain ⟨V1, p1, x1, i1, _, _, t1⟩ := take_rep hi.bare HC.out.named n3' hdn' P1.out.1 P1.out.2.2 G1.out.2.2.1 G1.out.2.1 G1.out.2.2.2.1 G1.out.2.2.2.2 UU.out.1 UU.out.2.2.1
          obtain ⟨V2, p2, x2', i2, _, _, t2⟩ := take_rep i1 HC.out.named n3' hdn' P2.out.1 P2.out.2.2 G2.out.2.2.1 G2.out.2.1 G2.out.2.2.2.1 (G2.out.2.2.2.2.tr (Vec.le_sup_l _ _)) UU.out.2.1 UU.out.2.2.2
          obtain ⟨V3, p3, x3, i3, _, _, t3⟩ := take_rep hi.bare HC.out.named n3' hdn' P2.out.1 P2.out.2.2 G2.out.2.2.1 G2.out.2.1 G2.out.2.2.2.1 G2.out.2.2.2.2 UU.out.2.1 UU.out.2.2.2
          obtain ⟨V4, p4, x4, i4, _, _, t4⟩ := take_rep i3 HC.out.named n3' hdn' P1.out.1 P1.out.2.2 G1.out.2.2.1 G1.out.2.1 G1.out.2.2.2.1 (G1.out.2.2.2.2.tr (Vec.le_sup_l _ _)) UU.out.1 UU.out.2.2.1
          have hle1 : Vec.le le1.knows (Vec.sup (Vec.sup (s.K d) le1.knows) le2.knows) := (Vec.le_sup_r _ _).tr (Vec.le_sup_l _ _)
          have hle2 : Vec.le le2.knows (Vec.sup (Vec.sup (s.K d) le1.knows) le2.knows) := Vec.le_sup_r _ _
          obtain ⟨V5, p5, x5, i5, e5, _, t5⟩ := take_rep i2 HC.out.named n3' hdn' P1.out.1 P1.out.2.2 G1.out.2.2.1 G1.out.2.1 G1.out.2.2.2.1 (G1.out.2.2.2.2.tr ((Vec.le_sup_l _ _).tr (Vec.le_sup_l _ _))) UU.out.1 UU.out.2.2.1
          obtain ⟨e51, e52⟩ := e5 hle1
          rw [e51, e52] at t5
          obtain ⟨V6, p6, x6, i6, e6, _, t6⟩ := take_rep i2 HC.out.named n3' hdn' P2.out.1 P2.out.2.2 G2.out.2.2.1 G2.out.2.1 G2.out.2.2.2.1 (G2.out.2.2.2.2.tr ((Vec.le_sup_l _ _).tr (Vec.le_sup_l _ _))) UU.out.2.1 UU.out.2.2.2
          obtain ⟨e61, e62⟩ := e6 hle2
          rw [e61, e62] at t6
          have hsup : Vec.sup (Vec.sup (s.K d) le2.knows) le1.knows = Vec.sup (Vec.sup (s.K d) le1.knows) le2.knows := funext fun i => (by
            show max (max (s.K d i) (le2.knows i)) (le1.knows i) = max (max (s.K d i) (le1.knows i)) (le2.knows i)
            omega)
          have hpp : p4 = p2 := i4.is.trans ((congrArg (held E) hsup).trans i2.is.symm)
          clear hsup
          rw [hpp] at t4
          rw [← G1.out.1] at t1 t4 t5
          rw [← G2.out.1] at t2 t3 t6
          rw [hnn] at t1 t2 t3 t4 t5 t6
          have HT1 := hid t1
          have HT2 := hid t2
          have HT3 := hid t3
          have HT4 := hid t4
          have HT5 := hid t5
          have HT6 := hid t6
          have pk := i2.ok.fine.ok
          obtain ⟨y, hy⟩ : ∃ y : ByteArray, y = ⟨(p2.digsTo n ++ [59] ++ p2.entTo 12).toArray⟩ := ⟨_, rfl⟩
          have HS2 := hid (fun (b : Nat) (wx : World) (hx : wx.heap[b]? = some (.cells (repArr d n p2 x2') 74)) => state_any b d n p2 wx hn3 pk hx)
          have HS4 := hid (fun (b : Nat) (wx : World) (hx : wx.heap[b]? = some (.cells (repArr d n p2 x4) 74)) => state_any b d n p2 wx hn3 pk hx)
          rw [← hy] at HS2 HS4
          obtain ⟨lg, hlg⟩ : ∃ lg : ByteArray, lg = ⟨x2'.log.toArray⟩ := ⟨_, rfl⟩
          have HL2 := hid (fun (b : Nat) (wx : World) (hx : wx.heap[b]? = some (.cells (repArr d n p2 x2') 74)) => log_any b d n p2 x2' wx hx)
          rw [← hlg] at HL2
          obtain ⟨lz, hlz⟩ : ∃ lz : ByteArray, lz = ⟨(s.x d).log.toArray⟩ := ⟨_, rfl⟩
          have HLZ := hid (fun (wx : World) (hb : Blw w3 wx) => log_any (m.b d) d s.n (s.p d) (s.x d) wx ((HR.out.cl.blw hb).xs.rep d hdn'))
          rw [← hlz] at HLZ
          have hfit := hi.ok.fits hi.short
          have hag := hi.ok.again
          rw [hnn] at hag
          have HOP : Hid (∀ wx, Tab Tryz.prog wx → Calls Tryz.prog 20 #[.int .i64 d, .int .i64 n, .string lz] wx fun e w' => e = .returned (.tuple #[.pointer (some ⟨wx.heap.size, 0, none⟩), .int .i64 0]) ∧ w'.heap[wx.heap.size]? = some (.cells (repArr d n (s.p d) (s.x d).bare) 74) ∧ Blw wx w') := by
            intro wx htx
            rw [hlz]
            refine (open_yes d n (s.x d).log _ wx rfl hfit.1 hn3 hdn htx).mono ?_
            rw [hag]
            rintro e w' ⟨hb, ⟨_, h2, h3⟩ | ⟨h2, _⟩⟩
            · exact ⟨h2, h3, hb⟩
            · cases h2
          have TB := hid (HR.out.cl.tab)
          have B03 := hid (HR.out.bl)
          clear t1 t2 t3 t4 t5 t6 i1 i2 i3 i4 i5 i6 e5 e6 e51 e52 e61 e62 hpp hi hy hlg hlz hag hfit hle1 hle2 pk
          clear P0 CL5
          go_wp2_with fail
          rw [← HW5.out]
          go_quiet (fail)
          obtain ⟨W6, hW6⟩ : ∃ W6, W6 = W5.drewN nq := ⟨_, rfl⟩
          have B36 : Blw w3 W6 := by rw [hW6]; exact Blw.drn B35.out _
          have HW6 := hid hW6
          have HB36 := hid B36
          have lls : W6.heap[w4.heap.size]? = some (.cells #[.string X1, .int .i64 f1, .int .i64 d, .slice uo1 ul1 uc1] 48) ∧ W6.heap[w5.heap.size]? = some (.cells #[.string X2, .int .i64 f2, .int .i64 d, .slice uo2 ul2 uc2] 48) := by
            rw [hW6]; exact HLL.out
          have LL6 := hid lls
          clear x2 xk z2 z2' hW6 lls B36
          go_wp2_with fail
          rw [← HW6.out]
          refine (HLZ.out _ HB36.out).mono ?_
          rintro e wl0 ⟨rfl, hwl0⟩
          subst wl0
          have z6 : W6.cell? ⟨w4.heap.size, 2, none⟩ = some (.int .i64 d) := by rw [blk_cell LL6.out.1]; rfl
          go_wp2_with fail
          refine (HOP.out _ (TB.out.blw HB36.out)).mono ?_
          rintro e w6 ⟨rfl, ho6, b6⟩
          have z7 : w6.cell? ⟨w4.heap.size, 2, none⟩ = some (.int .i64 d) := cell_blw b6 z6
          have O6 := hid (And.intro ho6 b6)
          clear z6 ho6 b6
          go_wp2_with fail
          refine (HOP.out _ ((TB.out.blw HB36.out).blw O6.out.2)).mono ?_
          rintro e w7 ⟨rfl, ho7, b7⟩
          have W7 : Hid (SwAt w3 w7 w4.heap.size w5.heap.size W6.heap.size w6.heap.size d n #[.string X1, .int .i64 f1, .int .i64 d, .slice uo1 ul1 uc1] #[.string X2, .int .i64 f2, .int .i64 d, .slice uo2 ul2 uc2] (s.p d) (s.x d).bare (s.p d) (s.x d).bare) := ⟨b7.bk' (O6.out.2.bk' LL6.out.1), b7.bk' (O6.out.2.bk' LL6.out.2), b7.bk' O6.out.1, ho7, Nat.ne_of_lt (lt_of_blk O6.out.1), HB36.out.sz, Nat.le_trans HB36.out.sz O6.out.2.sz, ((TB.out.blw HB36.out).blw O6.out.2).blw b7, (HB36.out.tr O6.out.2).tr b7⟩
          clear ho7 b7 z7
          have k1 : w7.cell? ⟨w4.heap.size, 0, none⟩ = some (.string X1) := by rw [blk_cell W7.out.l1]; rfl
          go_wp2_with fail
          refine (HT1.out _ _ W7.out.tab W7.out.rx).mono ?_
          rintro e w8 ⟨rfl, hr1⟩
          have W8 := hid (W7.out.tx hr1)
          clear hr1 k1
          have k2 : w8.cell? ⟨w5.heap.size, 0, none⟩ = some (.string X2) := by rw [blk_cell W8.out.l2]; rfl
          go_wp2_with fail
          refine (HT2.out _ _ W8.out.tab W8.out.rx).mono ?_
          rintro e w9 ⟨rfl, hr2⟩
          have W9 := hid (W8.out.tx hr2)
          clear hr2 k2
          have k3 : w9.cell? ⟨w5.heap.size, 0, none⟩ = some (.string X2) := by rw [blk_cell W9.out.l2]; rfl
          go_wp2_with fail
          refine (HT3.out _ _ W9.out.tab W9.out.ry).mono ?_
          rintro e w10 ⟨rfl, hr3⟩
          have W10 := hid (W9.out.ty hr3)
          clear hr3 k3
          have k4 : w10.cell? ⟨w4.heap.size, 0, none⟩ = some (.string X1) := by rw [blk_cell W10.out.l1]; rfl
          go_wp2_with fail
          refine (HT4.out _ _ W10.out.tab W10.out.ry).mono ?_
          rintro e w11 ⟨rfl, hr4⟩
          have W11 := hid (W10.out.ty hr4)
          clear hr4 k4
          go_wp2_with fail
          refine (HS2.out _ _ W11.out.rx).mono ?_
          rintro e w12 ⟨rfl, hb5⟩
          have W12 := hid (W11.out.blw hb5)
          clear hb5
          go_wp2_with fail
          refine (HS4.out _ _ W12.out.ry).mono ?_
          rintro e w13 ⟨rfl, hb6⟩
          have W13 := hid (W12.out.blw hb6)
          clear hb6
          go_wp2_with fail
          refine (HL2.out _ _ W13.out.rx).mono ?_
          rintro e wl7 ⟨rfl, hb7⟩
          subst wl7
          have k8 : w13.cell? ⟨w4.heap.size, 0, none⟩ = some (.string X1) := by rw [blk_cell W13.out.l1]; rfl
          go_wp2_with fail
          refine (HT5.out _ _ W13.out.tab W13.out.rx).mono ?_
          rintro e w14 ⟨rfl, hr8⟩
          have W14 := hid (W13.out.tx hr8)
          clear hr8 k8
          have k9 : w14.cell? ⟨w5.heap.size, 0, none⟩ = some (.string X2) := by rw [blk_cell W14.out.l2]; rfl
          go_wp2_with fail
          refine (HT6.out _ _ W14.out.tab W14.out.rx).mono ?_
          rintro e w15 ⟨rfl, hr9⟩
          have W15 := hid (W14.out.tx hr9)
          clear hr9 k9
          go_wp2_with fail
          refine (HS2.out _ _ W15.out.rx).mono ?_
          rintro e w16 ⟨rfl, hb10⟩
          have W16 := hid (W15.out.blw hb10)
          clear hb10
          go_wp2_with fail
          refine (HL2.out _ _ W16.out.rx).mono ?_
          rintro e wl11 ⟨rfl, hb11⟩
          subst wl11
          have BF := hid (B03.out.tr W16.out.bl)
          go_wp2
          go_ret
          exact ⟨rfl, BF.out⟩
        · have hdI : ((d : Int) == (d' : Int)) = false := by simp; omega
          have hdN : ((d : Int) != (d' : Int)) = true := by simp; omega
          have BF := hid (HR.out.bl.tr B35.out)
          go_wp2
          go_ret
          exact ⟨rfl, by have := BF.out; rw [HW5.out] at this; exact this⟩
  · clear h1
    go_wp2
    go_ret
    exact ⟨rfl, Blw.rfl w⟩

/-- What the row's list gives: the table, third on the list. -/
theorem tabOfSwaps {W : World} (h : laidMetH Tryz.prog Rows.swapsRow.laid W) : Tab Tryz.prog W := by
  have h' : laidMet Tryz.prog Rows.swapsRow.laid W := h
  obtain ⟨ps, ⟨g1, t1, cs1, f1, p1, q1, _, _, _, _, ⟨g2, t2, cs2, f2, p2, q2, _, _, _, _, hrest, _⟩, _⟩, _⟩ := h'
  obtain ⟨g', t', cs, fuel, p, q, hg', ht', hvar, hd, _, _⟩ := hrest
  obtain rfl := Option.some.inj (gPow.symm.trans hg')
  obtain rfl := Option.some.inj (gPowType.symm.trans ht')
  unfold Tab Lib.TabIs
  rw [powData] at hd
  rw [hvar, ← Lib.cells_of_tab Tryz.underlying137 Tryz.underlying130 cells88 cells94 hd]

set_option maxRecDepth 100000 in
theorem swaps_contract (H : Type) (enc : TypeId × Value → H) (W : World) (base : Nat) (args : Array Value) (ds gs : List (DataW H)) (before : List MemPlace)
    (hval : ∀ (j : Nat) t v, Tryz.f8.params[j]? = some t → args[j]? = some v → Value.okWide Tryz.prog W .any base t v)
    (hW : DataW.Whole enc Tryz.prog Tryz.f8.params.toList Rows.swapsSpec.vars false W args.toList ds gs before)
    (hsz : (DataW.weightsEach Tryz.prog (Tryz.f8.params.toList ++ Rows.swapsSpec.plain.varTypes Tryz.prog) (ds ++ gs)).all (· ≤ reachBytes) = true)
    (hL : laidMetH Tryz.prog Rows.swapsRow.laid W) :
    Calls Tryz.prog 8 args W fun e W' => ∃ v, e = .returned v ∧ Rows.swapsSpec.post enc Tryz.prog Tryz.f8 false true false false W args v W' := by
  have hW' := hW
  obtain ⟨p, q, hA0, hV, rfl, hfz, hnd⟩ := hW
  have hA : DataW.TrodAll enc Tryz.prog W 0 (fun _ => true) true Tryz.f8.params.toList args.toList ds p := hA0
  rw [Tryz.params8] at hA hval
  obtain ⟨v0, vs0, d0, ds0, p0, q0, hargs, rfl, rfl, h0, r0⟩ := trodAll_cons hA
  obtain ⟨v1, vs1, d1, ds1, p1, q1, rfl, rfl, rfl, h1, r1⟩ := trodAll_cons r0
  obtain ⟨v2, vs2, d2, ds2, p2, q2, rfl, rfl, rfl, h2, r2⟩ := trodAll_cons r1
  obtain ⟨v3, vs3, d3, ds3, p3, q3, rfl, rfl, rfl, h3, r3⟩ := trodAll_cons r2
  obtain ⟨rfl, rfl, rfl⟩ := trodAll_nil r3
  obtain rfl : args = #[v0, v1, v2, v3] := by cases args; simp_all
  obtain ⟨rfl, rfl⟩ := trodVars_none hV
  have lt0 : ∀ x ∈ p0, x.block < W.heap.size := by obtain ⟨m, hm⟩ := h0; exact DataW.trod_lt m _ _ _ hm
  obtain ⟨a1, rfl, rfl, rfl, w1⟩ := open_int Tryz.underlying3 (hval 1 3 v1 rfl rfl) h1
  obtain ⟨a2, rfl, rfl, rfl, w2⟩ := open_int Tryz.underlying3 (hval 2 3 v2 rfl rfl) h2
  obtain ⟨a3, rfl, rfl, rfl, w3⟩ := open_int Tryz.underlying3 (hval 3 3 v3 rfl rfl) h3
  obtain ⟨ad, len, cap, ops, hop⟩ := open_scriptO h0 hsz (okWide_slice Tryz.underlying22 (hval 0 22 v0 rfl rfl))
  clear hA0
  refine (swaps_all v0 a1 a2 a3 W (tabOfSwaps hL) hop (wf_bd w1) (wf_bd w2) (wf_bd w3)).mono fun e W' ⟨he, bel⟩ => ?_
  subst he
  exact ⟨_, rfl, _, _, _, [], _, [], hW', trodAll_mk1 (shut_bool Tryz.underlying4 _), (trodAll_cons_mk (Below.trod laidOut (by kernel_rfl) (of_decide_eq_true (by kernel_rfl)) h0 bel lt0) (trodAll_cons_mk (shut_int Tryz.underlying3 w1) (trodAll_cons_mk (shut_int Tryz.underlying3 w2) (trodAll_cons_mk (shut_int Tryz.underlying3 w3) trodAll_mk0)))), rfl, bel.frame _, fun h => by cases h⟩
/-- A table's cells. -/
def tabCellsSwaps : DataW Unit → Array Value
  | .agg ps => (ps.map fun | .lit (.int k n) => Value.int k n | _ => undef).toArray
  | _ => #[]
/-- The three tables laid. -/
def layTabsSwaps (w : World) : World :=
  { w with heap := ((w.heap.modify 0 fun | .cells _ t frozen => .cells (tabCellsSwaps Rows.laid_internal_strconv_uint64pow10) t frozen | o => o).modify 1 fun | .cells _ t frozen => .cells (tabCellsSwaps Rows.laid_math_bits_deBruijn32tab) t frozen | o => o).modify 2 fun | .cells _ t frozen => .cells (tabCellsSwaps Rows.laid_math_bits_deBruijn64tab) t frozen | o => o }

set_option maxRecDepth 100000 in
theorem swaps_lifted (os : Os) (started : os.Started) (H : Type) (enc : TypeId × Value → H) (F : Stop.Interp) :
    ReturnsInHanded {} Tryz.checked os 8 .any ((OpenSpec.ofChange Rows.swapsSpec).preRow enc Tryz.prog Tryz.f8 Rows.swapsRow.domain false Rows.swapsRow.laid) (((OpenSpec.ofChange Rows.swapsSpec).at F).post enc Tryz.prog Tryz.f8 false true false false) := by
  have hl : laidMet Tryz.prog Rows.swapsRow.laid ((layTabsSwaps (World.holding Tryz.prog os ⟨#[], #[], []⟩)).forCall (fun _ _ => 0) ⟨#[], #[.slice none 0 0, .int .i64 0, .int .i64 0, .int .i64 0], []⟩).memory := laidMet_of_run' 8 (by kernel_rfl) (by kernel_rfl)
  obtain ⟨places, hx⟩ : ∃ places, DataW.whole enc Tryz.prog ((layTabsSwaps (World.holding Tryz.prog os ⟨#[], #[], []⟩)).forCall (fun _ _ => 0) ⟨#[], #[.slice none 0 0, .int .i64 0, .int .i64 0, .int .i64 0], []⟩).memory Tryz.f8.params.toList Rows.swapsSpec.vars false #[Value.slice none 0 0, Value.int .i64 0, Value.int .i64 0, Value.int .i64 0].toList 8 = some ([.nil, .lit (.int .i64 0), .lit (.int .i64 0), .lit (.int .i64 0)], [], places) := ⟨[], by kernel_rfl⟩
  refine returnsInHanded_of_row (C := Tryz.checked) (s := OpenSpec.ofChange Rows.swapsSpec) own started (by kernel_rfl) Tryz.func8
    (witness_row_at (enc := enc) (C := Tryz.checked) false (layTabsSwaps (World.holding Tryz.prog os ⟨#[], #[], []⟩)) #[.slice none 0 0, .int .i64 0, .int .i64 0, .int .i64 0] rfl (by kernel_rfl) (by kernel_rfl) (by kernel_rfl)
      (OpenSpec.preRow_of_cond 8 hx (by kernel_rfl) (fun k hk => by cases hk) (by kernel_rfl) hl)) ?_
  intro W base args ds gs before hval hW _ _ hsz hL _ _
  exact swaps_contract H enc W base args ds gs before hval hW hsz hL

theorem swaps_said : Rows.SwapsSaid :=
  OpenClaim.holds_of_cond 8 Tryz.f8 rfl rfl rfl rfl rfl rfl rfl ⟨rfl, rfl, rfl, rfl, rfl⟩ rfl rfl rfl rfl rfl (by kernel_rfl) Tryz.func8 (by kernel_rfl)
    (of_decide_eq_true (by kernel_rfl)) (by unfold Func.isWrapper; first | (rw [if_pos (by decide +kernel)]; kernel_rfl) | (rw [if_neg (by decide +kernel)]; exact ⟨rfl, rfl⟩))
    (fun os started H enc _ F => by rw [OpenClaim.pre_eq_preRow]; exact swaps_lifted os started H enc F)

theorem swaps_plain (f : FuncId) (fn : Func) (hf : Tryz.pinned.checked.prog.funcNamed Tryz.f8.name = some f) (hfn : Tryz.pinned.checked.prog.funcs[f]? = some fn) :
    false = Tryz.pinned.checked.prog.looks [] ∧ ∀ (j : Nat) t, fn.params[j]? = some t → Tryz.pinned.checked.prog.wantsStandIn t = false := by
  obtain rfl : f = 8 := Option.some.inj ((show Tryz.prog.funcNamed Tryz.f8.name = some 8 by kernel_rfl).symm.trans hf) |>.symm
  obtain rfl : fn = Tryz.f8 := (Option.some.inj (Tryz.func8.symm.trans hfn)).symm
  refine ⟨by kernel_rfl, fun j t ht => ?_⟩
  rw [Tryz.params8] at ht
  have hm : t = 22 ∨ t = 3 ∨ t = 3 ∨ t = 3 := by simpa using Array.mem_of_getElem? ht
  rcases hm with rfl | rfl | rfl | rfl
  · exact (show Tryz.prog.wantsStandIn 22 = false by kernel_rfl)
  · exact (show Tryz.prog.wantsStandIn 3 = false by kernel_rfl)
  · exact (show Tryz.prog.wantsStandIn 3 = false by kernel_rfl)
  · exact (show Tryz.prog.wantsStandIn 3 = false by kernel_rfl)

theorem swaps_card : Rows.SwapsCardSaid :=
  Claim7.holds_tied_plain_at .later [] _ _ _ _ swaps_said (fun _ h => by cases h) (by kernel_rfl) (fun _ h => by cases h) swaps_row_tie rfl ⟨rfl, rfl⟩ (by kernel_rfl) rfl swaps_plain (by kernel_rfl)
#print axioms swaps_card
end Go.Proofs.YtalaldfgjgpacabGreatDoor
