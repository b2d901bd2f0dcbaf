import Derived.Test.YtalaldfgjgpacaaGreatDoorHAV
import Derived.Test.YtalaldfgjgpacaaGreatDoorQB
import Derived.Test.YtalaldfgjgpacaaGreatDoorQF
import Derived.Test.YtalaldfgjgpacaaGreatDoorQT
import Derived.Test.YtalaldfgjgpacaaGreatDoorChecked
import Derived.BigQuiet
namespace Go.Proofs.YtalaldfgjgpacaaGreatDoor
set_option linter.unusedVariables false
set_option linter.unusedSimpArgs false
open Go.RowKit
attribute [local go_sem ↓] Go.wp_at_zero Go.wp_at_succ

open Go.ChangeShapes Go.WideShapes Go.ChangeAt Go.Deep

set_option maxRecDepth 100000 in
set_option maxHeartbeats 16000000 in
/-- Told, whatever the script. -/
theorem told_all (v : Value) (w : World) (ht : Tab Tryz.prog w) {ad : Option Addr} {len cap : Nat} {ops : Nat → OpR} (h : ScriptAt w v ad len cap ops) :
    Calls Tryz.prog 11 #[v] w fun e w' => e = .returned (.bool true) ∧ Below w.heap.size w w' := by
  have HSM := hid (small_at h)
  have HH := hid h
  have HT := hid ht
  clear h ht
  go_enter Tryz.func11, Tryz.ntmps11
  go_wp2_with fail
  refine HSM.out.mono ?_
  rintro e w2 ⟨he, hw2⟩
  subst w2
  rcases he with ⟨rfl, hlen⟩ | rfl
  · have HRN := hid (runs_0 ToldJ ops len cap 2 ad 0 7 w (by omega) (by omega) (.inl rfl) hlen HH.out.ok (ToldJ.start 0) (fun s k o hr hn hj ho => ToldJ.step hr hn hj ho) HH.out.lies HT.out)
    rw [← HH.out.val, show ((2 : Nat) : Int) = 2 from rfl] at HRN
    go_wp2_with fail
    refine HRN.out.mono ?_
    rintro e w3 ⟨rfl, m, s, hR⟩
    obtain ⟨E, V, Ds, hC, hDs, hK1, hlog⟩ := hR.j
    have hsn := hR.hn
    have r1 := hC.rep 1 (by omega)
    have hk9 : Ds.length ≤ 9 := by
      have := r1.bnd.nine 1
      rw [hK1] at this
      exact this
    have hgE : GoodE E (Vr Ds.length) := by rw [← hK1]; exact r1.good
    have hp1 : s.p 1 = held E (Vr Ds.length) := by rw [r1.is, hK1]
    have u2 : w3.cell? ⟨w.heap.size, 2, none⟩ = some (.slice (some ⟨m.xb, 0, none⟩) s.n m.cx) := by rw [← hR.cb, hR.cl.cell]; rfl
    rw [hsn] at u2
    have ux : w3.cell? ⟨m.xb, 1, none⟩ = some (.pointer (some ⟨m.b 1, 0, none⟩)) := hR.cl.x0 (by omega)
    have hrep : w3.heap[m.b 1]? = some (.cells (repArr 1 2 (s.p 1) (s.x 1)) 69) := by have := hR.cl.xs.rep 1 (by omega); rw [hsn] at this; exact this
    have hpk : (s.p 1).ok := r1.ok.fine.ok
    have hlf : (s.x 1).log = frames Ds := by rw [hlog, replay_frames]
    have hll := (r1.ok.fits r1.short).1
    have HNW := hid (new_yes 0 2 w3 (by omega) (by omega))
    rw [show ((0 : Nat) : Int) = 0 from rfl, show ((2 : Nat) : Int) = 2 from rfl] at HNW
    obtain ⟨W4, hW4⟩ : ∃ W4, W4 = w3.alloc (.cells (repArr 0 2 Pc.empty Ext.zero) 69) := ⟨_, rfl⟩
    rw [← hW4] at HNW
    have b4 : Blw w3 W4 := by rw [hW4]; exact (Blw.rfl w3).al _
    have hy4 : W4.heap[w3.heap.size]? = some (.cells (repArr 0 2 Pc.empty Ext.zero) 69) := by rw [hW4]; exact hp_new w3 _
    obtain ⟨Lg, hLg⟩ : ∃ Lg : ByteArray, Lg = ⟨(frames Ds).toArray⟩ := ⟨_, rfl⟩
    obtain ⟨St, hSt⟩ : ∃ St : ByteArray, St = ⟨((s.p 1).digsTo 2 ++ [59] ++ (s.p 1).entTo 12).toArray⟩ := ⟨_, rfl⟩
    have HL1 := hid (fun (wx : World) (hb : wx.heap[m.b 1]? = w3.heap[m.b 1]?) => log_any (m.b 1) 1 2 (s.p 1) (s.x 1) wx (hb.trans hrep))
    have HS1 := hid (fun (wx : World) (hb : wx.heap[m.b 1]? = w3.heap[m.b 1]?) => state_any (m.b 1) 1 2 (s.p 1) wx (by omega) hpk (hb.trans hrep))
    rw [hlf, ← hLg] at HL1
    rw [← hSt] at HS1
    have hbne : m.b 1 ≠ w3.heap.size := by have := lt_of_blk hrep; omega
    have HX := hid (And.intro hDs (And.intro hk9 (And.intro hgE (And.intro hC.named (And.intro hp1 (And.intro hLg (And.intro hSt (And.intro hbne (lt_of_blk hrep)))))))))
    have F4 := hid (And.intro b4 hy4)
    have B3 := hid hR.bl
    have TB := hid hR.cl.tab
    have hLs : Lg.size ≤ 9000 := by rw [hLg, ba_size, ← hlf]; exact hll
    clear hR hC hDs hK1 hlog r1 hk9 hgE hp1 hrep hpk hlf hll hW4 b4 hy4 hLg hSt hbne hsn
    go_wp2_with fail
    refine HNW.out.mono ?_
    rintro e w4 ⟨rfl, hw4⟩
    subst w4
    obtain ⟨yb, hyb⟩ : ∃ yb, yb = w3.heap.size := ⟨_, rfl⟩
    rw [← hyb] at F4 HX ⊢
    have HYB := hid hyb
    have Y0 : Hid (∃ p x, Hears E Ds 0 p x ∧ W4.heap[yb]? = some (.cells (repArr 0 2 p x) 69)) := ⟨_, _, Hears.start E HX.out.2.2.2.1 Ds, F4.out.2⟩
    clear u2 ux hyb
    go_wp2_with fail
    go_loopw [8] (fun ag wr => ∃ (a : Nat) (p : Pc) (x : Ext), a ≤ 2 ∧ ag = .int .i64 a ∧ Blw w3 wr ∧ Hears E Ds (if a = 0 then 0 else Ds.length) p x ∧ wr.heap[yb]? = some (.cells (repArr 0 2 p x) 69)) (fun ag _ => 2 - (intOf ag).toNat)
    case atStart =>
      obtain ⟨p, x, h1, h2⟩ := Y0.out
      exact ⟨0, p, x, by omega, rfl, F4.out.1, h1, h2⟩
    case round =>
      obtain ⟨a, p, x, ha, rfl, hb, hhe, hyx⟩ := hrel
      by_cases ha2 : a < 2
      · have da : decide ((a : Int) < (2 : Int)) = true := by simp; omega
        have I1 := hid (And.intro hb (And.intro hhe hyx))
        have HLa := hid (HL1.out wr (hb.bk _ (by rw [← HYB.out]; exact HX.out.2.2.2.2.2.2.2.2)))
        clear hb hhe hyx
        go_wp2_with fail
        refine HLa.out.mono ?_
        rintro e wl ⟨rfl, hwl⟩
        subst wl
        go_wp2_with fail
        go_loopw [9] (fun lg wr => ∃ (i : Nat) (p : Pc) (x : Ext), i ≤ Ds.length ∧ lg = .string ⟨(frames (Ds.drop i)).toArray⟩ ∧ Blw w3 wr ∧ Hears E Ds (if a = 0 then i else Ds.length) p x ∧ wr.heap[yb]? = some (.cells (repArr 0 2 p x) 69)) (fun lg _ => lenV lg)
        case atStart => exact ⟨0, p, x, by omega, by rw [HX.out.2.2.2.2.2.1, List.drop_zero], I1.out.1, I1.out.2.1, I1.out.2.2⟩
        case round =>
          obtain ⟨i, p, x, hi, rfl, hb, hhe, hyx⟩ := hrel
          by_cases hid' : i < Ds.length
          · obtain ⟨D, hD⟩ : ∃ D, Ds[i]? = some D := ⟨_, List.getElem?_eq_getElem hid'⟩
            obtain ⟨p', x', hhe', htk⟩ := hhe.hear HX.out.2.2.2.1 HX.out.2.1 HX.out.2.2.1 HX.out.1 hD (by split <;> omega) (by split <;> omega)
            have hDk := (HX.out.1 i D hD).fine (HX.out.2.2.1.le (Vr_le (by omega)))
            have hLn := text_len' D hDk.ok
            obtain ⟨L, hL⟩ : ∃ L, L = D.text := ⟨_, rfl⟩
            rw [← hL] at hLn
            have hfr := frames_cons hD
            rw [← hL] at hfr
            obtain ⟨rest, hrest⟩ : ∃ rest, rest = frames (Ds.drop (i + 1)) := ⟨_, rfl⟩
            rw [← hrest] at hfr
            obtain ⟨kk, hkk⟩ : ∃ kk, kk = 1 + L.length := ⟨_, rfl⟩
            obtain ⟨l, hl⟩ : ∃ l, l = frames (Ds.drop i) := ⟨_, rfl⟩
            have hl4 : l = [dig (kk / 100), dig (kk / 10 % 10), dig (kk % 10), 68] ++ L ++ rest := by
              rw [hl, hfr]
              unfold frameL
              rw [show (([68] : Bs) ++ L).length = kk by rw [hkk]; simp; omega, ← three_last kk (by omega)]
              simp
            rw [← hl]
            obtain ⟨y, hy⟩ : ∃ y : ByteArray, y = ⟨l.toArray⟩ := ⟨_, rfl⟩
            rw [← hy]
            have hys : y.size = 4 + L.length + rest.length := by rw [hy, ba_size, hl4]; simp; omega
            have hg0 : ∀ j (hj : j < y.size), y[j] = l.getD j 0 := by
              intro j hj
              subst hy
              rw [List.getD_eq_getElem?_getD, List.getElem?_eq_getElem (by simpa [ByteArray.size] using hj)]
              simp [ByteArray.getElem_eq_getElem_data]
            obtain ⟨a1, ha1⟩ : ∃ z, z = kk / 100 := ⟨_, rfl⟩
            obtain ⟨b1, hb1⟩ : ∃ z, z = kk / 10 % 10 := ⟨_, rfl⟩
            obtain ⟨c1, hc1⟩ : ∃ z, z = kk % 10 := ⟨_, rfl⟩
            have i0 : 0 < y.size := by omega
            have i1 : 1 < y.size := by omega
            have i2 : 2 < y.size := by omega
            have i3 : 3 < y.size := by omega
            have y0 : (y[0].toNat : Int) = (a1 : Int) + 48 := by rw [hg0 0 i0, hl4, ← ha1]; show ((dig a1).toNat : Int) = _; rw [dig_toNat _ (by omega)]; omega
            have y1 : (y[1].toNat : Int) = (b1 : Int) + 48 := by rw [hg0 1 i1, hl4, ← hb1]; show ((dig b1).toNat : Int) = _; rw [dig_toNat _ (by omega)]; omega
            have y2 : (y[2].toNat : Int) = (c1 : Int) + 48 := by rw [hg0 2 i2, hl4, ← hc1]; show ((dig c1).toNat : Int) = _; rw [dig_toNat _ (by omega)]; omega
            have y3 : (y[3].toNat : Int) = 68 := by rw [hg0 3 i3, hl4]; rfl
            have ha9 : a1 ≤ 9 := by omega
            have hb9 : b1 ≤ 9 := by omega
            have hc9 : c1 ≤ 9 := by omega
            have hsum : (kk : Int) = 100 * (a1 : Int) + 10 * (b1 : Int) + (c1 : Int) := by omega
            have hx4 : y.extract 4 (3 + kk) = ⟨L.toArray⟩ := by
              rw [hy, bs_extract, hl4]
              congr 2
              rw [show 3 + kk - 4 = L.length by omega]
              simp
            have hxr : y.extract (3 + kk) y.size = ⟨rest.toArray⟩ := by
              rw [hys, hy, bs_extract, hl4, List.drop_left' (by simp; omega), show 4 + L.length + rest.length - (3 + kk) = rest.length by omega, List.take_length]
            have hk1 : 1 ≤ kk := by omega
            have hk2 : kk ≤ 245 := by omega
            have hk3 : 3 + kk ≤ y.size := by omega
            have I2 := hid (And.intro hb (And.intro hhe' hyx))
            have HTK := hid htk
            rw [← hL] at HTK
            have hcat : (⟨#[73, 49, 48, 48, 55]⟩ : ByteArray) ++ y.extract 4 (3 + kk) = ⟨(headL 73 1 0 7 ++ L).toArray⟩ := by
              rw [hx4]
              exact ByteArray.mk_append_mk [73, 49, 48, 48, 55] L
            rw [← hcat, show (headL 65 0 1 7).toArray = #[65, 48, 49, 48, 55] from rfl] at HTK
            have HEX := hid (And.intro hx4 (And.intro hxr (And.intro hrest (And.intro hsum hys))))
            clear hb hhe hhe' hyx htk hDk hL hfr hrest hkk hl hl4 hy hys hg0 ha1 hb1 hc1 hx4 hxr
            go_wp2_with fail
            go_cut [10] (fun s10 wx => s10 = .int .i64 kk ∧ Blw wr wx)
            case first =>
              go_quiet (fail)
              go_wp2_with fail
              go_meet
              case rel => exact ⟨by rw [HEX.out.2.2.2.1], Blw.drn (Blw.rfl _) _⟩
            case rest =>
              obtain ⟨rfl, hbc⟩ := hcut
              have IC := hid (And.intro (I2.out.1.tr hbc) (hbc.bk' I2.out.2.2))
              clear y0 y1 y2 hsum hbc hcat
              go_wp2_with fail
              refine (HTK.out _ _ (TB.out.blw IC.out.1) IC.out.2).mono ?_
              rintro e w7 ⟨rfl, hr7, hb7⟩
              have b37 : Blw w3 w7 := by
                have h0 := IC.out.1
                have hge : w3.heap.size ≤ yb := Nat.le_of_eq HYB.out.symm
                exact ⟨hb7.os.trans h0.os, hb7.tape.trans h0.tape, hb7.output.trans h0.output, Nat.le_trans h0.size hb7.size, fun k hk => (hb7.block k (Nat.lt_of_lt_of_le hk h0.size) (by omega)).trans (h0.block k hk)⟩
              have I7 := hid (And.intro b37 hr7)
              clear b37 hr7 hb7
              go_wp2
              go_roundw
              case rel =>
                refine ⟨i + 1, p', x', by omega, by rw [HEX.out.2.1, HEX.out.2.2.1], I7.out.1, ?_, I7.out.2⟩
                have := I2.out.2.1
                by_cases c0 : a = 0
                · rw [if_pos c0] at this ⊢
                  rw [show max i (i + 1) = i + 1 by omega] at this
                  exact this
                · rw [if_neg c0] at this ⊢
                  rw [show max Ds.length (i + 1) = Ds.length by omega] at this
                  exact this
              case measure =>
                show (y.extract (3 + kk) y.size).size < y.size
                rw [HEX.out.2.1, ba_size, HEX.out.2.2.2.2]
                omega
          · have hik : i = Ds.length := by omega
            subst hik
            rw [frames_end]
            obtain ⟨V9, hV9⟩ := hhe.inv
            have hqk : (if a = 0 then Ds.length else Ds.length) = Ds.length := by split <;> rfl
            rw [hqk] at hV9
            have hp9 : p = s.p 1 := by rw [hV9.is, HX.out.2.2.2.2.1]
            have hx9 : (⟨x.log.toArray⟩ : ByteArray) = Lg := by
              rw [HX.out.2.2.2.2.2.1]
              have := hhe.log
              rw [hqk, List.take_length, replay_frames] at this
              rw [this]
            have hok9 := hV9.ok.fine.ok
            have HS2 := hid (fun (wx : World) (hb : Blw wr wx) => state_any yb 0 2 p wx (by omega) hok9 (hb.bk' hyx))
            have HL2 := hid (fun (wx : World) (hb : Blw wr wx) => log_any yb 0 2 p x wx (hb.bk' hyx))
            rw [hx9] at HL2
            rw [hp9, ← HX.out.2.2.2.2.2.2.1] at HS2
            have hlt9 : m.b 1 < w3.heap.size := by rw [← HYB.out]; exact HX.out.2.2.2.2.2.2.2.2
            have HS1' := hid (HS1.out wr (hb.bk _ hlt9))
            have HL1' := hid (fun (wx : World) (hb' : Blw wr wx) => HL1.out wx ((hb.tr hb').bk _ hlt9))
            have I9 := hid (And.intro hb (And.intro hhe hyx))
            clear hb hhe hyx hV9 hp9 hx9 hok9 hlt9
            go_wp2_with fail
            refine HS1'.out.mono ?_
            rintro e w6 ⟨rfl, b6⟩
            have B6 := hid b6
            clear b6
            go_wp2_with fail
            refine (HS2.out _ B6.out).mono ?_
            rintro e w7 ⟨rfl, b7⟩
            have B7 := hid (B6.out.tr b7)
            clear b7
            go_wp2_with fail
            refine (HL1'.out _ B7.out).mono ?_
            rintro e w8 ⟨rfl, hw8⟩
            subst w8
            go_wp2_with fail
            refine (HL2.out _ B7.out).mono ?_
            rintro e w9 ⟨rfl, hw9⟩
            subst w9
            go_wp2
            go_roundw
            case rel => exact ⟨a + 1, p, x, by omega, by go_num, I9.out.1.tr B7.out, by have := I9.out.2.1; rw [hqk] at this; rw [if_neg (by omega)]; exact this, B7.out.bk' I9.out.2.2⟩
            case measure => simp [intOf]; omega
      · have ha3 : a = 2 := by omega
        subst ha3
        have BF := hid (B3.out.tr hb)
        clear hb hhe hyx
        go_wp2
        go_ret
        exact ⟨rfl, BF.out⟩
  · go_wp2
    go_ret
    exact ⟨rfl, Blw.rfl w⟩

/-- What the row's list gives: the table, third on the list. -/
theorem tabOfTold {W : World} (h : laidMetH Tryz.prog Rows.toldRow.laid W) : Tab Tryz.prog W := by
  have h' : laidMet Tryz.prog Rows.toldRow.laid W := h
  obtain ⟨ps, ⟨g1, t1, cs1, f1, p1, q1, _, _, _, _, ⟨g2, t2, cs2, f2, p2, q2, _, _, _, _, hrest, _⟩, _⟩, _⟩ := h'
  obtain ⟨g', t', cs, fuel, p, q, hg', ht', hvar, hd, _, _⟩ := hrest
  obtain rfl := Option.some.inj (gPow.symm.trans hg')
  obtain rfl := Option.some.inj (gPowType.symm.trans ht')
  unfold Tab Lib.TabIs
  rw [powData] at hd
  rw [hvar, ← Lib.cells_of_tab Tryz.underlying172 Tryz.underlying166 cells88 cells94 hd]

set_option maxRecDepth 100000 in
theorem told_contract (H : Type) (enc : TypeId × Value → H) (W : World) (base : Nat) (args : Array Value) (ds gs : List (DataW H)) (before : List MemPlace)
    (hval : ∀ (j : Nat) t v, Tryz.f11.params[j]? = some t → args[j]? = some v → Value.okWide Tryz.prog W .any base t v)
    (hW : DataW.Whole enc Tryz.prog Tryz.f11.params.toList Rows.toldSpec.vars false W args.toList ds gs before)
    (hsz : (DataW.weightsEach Tryz.prog (Tryz.f11.params.toList ++ Rows.toldSpec.plain.varTypes Tryz.prog) (ds ++ gs)).all (· ≤ reachBytes) = true)
    (hL : laidMetH Tryz.prog Rows.toldRow.laid W) :
    Calls Tryz.prog 11 args W fun e W' => ∃ v, e = .returned v ∧ Rows.toldSpec.post enc Tryz.prog Tryz.f11 false true false false W args v W' := by
  have hW' := hW
  obtain ⟨p, q, hA0, hV, rfl, hfz, hnd⟩ := hW
  have hA : DataW.TrodAll enc Tryz.prog W 0 (fun _ => true) true Tryz.f11.params.toList args.toList ds p := hA0
  rw [Tryz.params11] at hA hval
  obtain ⟨v0, vs0, d0, ds0, p0, q0, hargs, rfl, rfl, h0, r0⟩ := trodAll_cons hA
  obtain ⟨rfl, rfl, rfl⟩ := trodAll_nil r0
  obtain rfl : args = #[v0] := by cases args; simp_all
  obtain ⟨rfl, rfl⟩ := trodVars_none hV
  have lt0 : ∀ x ∈ p0, x.block < W.heap.size := by obtain ⟨m, hm⟩ := h0; exact DataW.trod_lt m _ _ _ hm
  obtain ⟨ad, len, cap, ops, hop⟩ := open_scriptO h0 hsz (okWide_slice Tryz.underlying22 (hval 0 22 v0 rfl rfl))
  clear hA0
  refine (told_all v0  W (tabOfTold hL) hop ).mono fun e W' ⟨he, bel⟩ => ?_
  subst he
  exact ⟨_, rfl, _, _, _, [], _, [], hW', trodAll_mk1 (shut_bool Tryz.underlying4 _), (trodAll_cons_mk (Below.trod laidOut (by kernel_rfl) (of_decide_eq_true (by kernel_rfl)) h0 bel lt0) trodAll_mk0), rfl, bel.frame _, fun h => by cases h⟩
/-- A table's cells. -/
def tabCellsTold : DataW Unit → Array Value
  | .agg ps => (ps.map fun | .lit (.int k n) => Value.int k n | _ => undef).toArray
  | _ => #[]
/-- The three tables laid. -/
def layTabsTold (w : World) : World :=
  { w with heap := ((w.heap.modify 0 fun | .cells _ t frozen => .cells (tabCellsTold Rows.laid_internal_strconv_uint64pow10) t frozen | o => o).modify 1 fun | .cells _ t frozen => .cells (tabCellsTold Rows.laid_math_bits_deBruijn32tab) t frozen | o => o).modify 2 fun | .cells _ t frozen => .cells (tabCellsTold Rows.laid_math_bits_deBruijn64tab) t frozen | o => o }

set_option maxRecDepth 100000 in
theorem told_lifted (os : Os) (started : os.Started) (H : Type) (enc : TypeId × Value → H) (F : Stop.Interp) :
    ReturnsInHanded {} Tryz.checked os 11 .any ((OpenSpec.ofChange Rows.toldSpec).preRow enc Tryz.prog Tryz.f11 Rows.toldRow.domain false Rows.toldRow.laid) (((OpenSpec.ofChange Rows.toldSpec).at F).post enc Tryz.prog Tryz.f11 false true false false) := by
  have hl : laidMet Tryz.prog Rows.toldRow.laid ((layTabsTold (World.holding Tryz.prog os ⟨#[], #[], []⟩)).forCall (fun _ _ => 0) ⟨#[], #[.slice none 0 0], []⟩).memory := laidMet_of_run' 8 (by kernel_rfl) (by kernel_rfl)
  obtain ⟨places, hx⟩ : ∃ places, DataW.whole enc Tryz.prog ((layTabsTold (World.holding Tryz.prog os ⟨#[], #[], []⟩)).forCall (fun _ _ => 0) ⟨#[], #[.slice none 0 0], []⟩).memory Tryz.f11.params.toList Rows.toldSpec.vars false #[Value.slice none 0 0].toList 8 = some ([.nil], [], places) := ⟨[], by kernel_rfl⟩
  refine returnsInHanded_of_row (C := Tryz.checked) (s := OpenSpec.ofChange Rows.toldSpec) own started (by kernel_rfl) Tryz.func11
    (witness_row_at (enc := enc) (C := Tryz.checked) false (layTabsTold (World.holding Tryz.prog os ⟨#[], #[], []⟩)) #[.slice none 0 0] rfl (by kernel_rfl) (by kernel_rfl) (by kernel_rfl)
      (OpenSpec.preRow_of_cond 8 hx (by kernel_rfl) (fun k hk => by cases hk) (by kernel_rfl) hl)) ?_
  intro W base args ds gs before hval hW _ _ hsz hL _ _
  exact told_contract H enc W base args ds gs before hval hW hsz hL

theorem told_said : Rows.ToldSaid :=
  OpenClaim.holds_of_cond 11 Tryz.f11 rfl rfl rfl rfl rfl rfl rfl ⟨rfl, rfl, rfl, rfl, rfl⟩ rfl rfl rfl rfl rfl (by kernel_rfl) Tryz.func11 (by kernel_rfl)
    (of_decide_eq_true (by kernel_rfl)) (by unfold Func.isWrapper; first | (rw [if_pos (by decide +kernel)]; kernel_rfl) | (rw [if_neg (by decide +kernel)]; exact ⟨rfl, rfl⟩))
    (fun os started H enc _ F => by rw [OpenClaim.pre_eq_preRow]; exact told_lifted os started H enc F)

theorem told_plain (f : FuncId) (fn : Func) (hf : Tryz.pinned.checked.prog.funcNamed Tryz.f11.name = some f) (hfn : Tryz.pinned.checked.prog.funcs[f]? = some fn) :
    false = Tryz.pinned.checked.prog.looks [] ∧ ∀ (j : Nat) t, fn.params[j]? = some t → Tryz.pinned.checked.prog.wantsStandIn t = false := by
  obtain rfl : f = 11 := Option.some.inj ((show Tryz.prog.funcNamed Tryz.f11.name = some 11 by kernel_rfl).symm.trans hf) |>.symm
  obtain rfl : fn = Tryz.f11 := (Option.some.inj (Tryz.func11.symm.trans hfn)).symm
  refine ⟨by kernel_rfl, fun j t ht => ?_⟩
  rw [Tryz.params11] at ht
  have hm : t = 22 := by simpa using Array.mem_of_getElem? ht
  subst hm
  exact (show Tryz.prog.wantsStandIn 22 = false by kernel_rfl)

theorem told_card : Rows.ToldCardSaid :=
  Claim7.holds_tied_plain_at .later [] _ _ _ _ told_said (fun _ h => by cases h) (by kernel_rfl) (fun _ h => by cases h) told_row_tie rfl ⟨rfl, rfl⟩ (by kernel_rfl) rfl told_plain (by kernel_rfl)
#print axioms told_card
end Go.Proofs.YtalaldfgjgpacaaGreatDoor
