import Derived.Test.YtalaldfgjgpacabGreatDoorHAV
import Derived.Test.YtalaldfgjgpacabGreatDoorHBD
import Derived.Test.YtalaldfgjgpacabGreatDoorQB
import Derived.Test.YtalaldfgjgpacabGreatDoorChecked
import Derived.Deep.RegionHeld3
import Derived.BigQuiet
namespace Go.Proofs.YtalaldfgjgpacabGreatDoor
set_option linter.unusedVariables false
set_option linter.unusedSimpArgs false
open Go.RowKit
attribute [local go_sem ↓] Go.wp_at_zero Go.wp_at_succ

open Go.ChangeShapes Go.WideShapes Go.ChangeAt Go.Deep

theorem str_get {l : List UInt8} {y : ByteArray} (hy : y = ⟨l.toArray⟩) {i : Nat} (hi : i < y.size) : y[i] = l.getD i 0 := by
  subst hy
  rw [List.getD_eq_getElem?_getD, List.getElem?_eq_getElem (by simpa [ByteArray.size] using hi)]
  simp [ByteArray.getElem_eq_getElem_data]

set_option maxRecDepth 100000 in
set_option maxHeartbeats 8000000 in
/-- Chains, whatever the script and the number. -/
theorem chains_all (v : Value) (a1 : Int) (w : World) (ht : Tab Tryz.prog w) {ad : Option Addr} {len cap : Nat} {ops : Nat → OpR} (h : ScriptAt w v ad len cap ops) (h1 : i64ok a1) :
    Calls Tryz.prog 5 #[v, .int .i64 a1] w fun e w' => e = .returned (.bool true) ∧ Below w.heap.size w w' := by
  have HSM := hid (small_at h)
  have HH := hid h
  have HT := hid ht
  obtain ⟨rfl, -, -, -, -⟩ := h
  clear ht
  go_enter Tryz.func5, Tryz.ntmps5
  go_wp2_with fail
  refine HSM.out.mono ?_
  rintro e w2 ⟨he, hw2⟩
  subst w2
  rcases he with ⟨rfl, hlen⟩ | rfl
  · by_cases c1 : a1 < 1
    · have d1 : decide (a1 < 1) = true := by simpa using c1
      clear c1 h1
      go_wp2
      go_ret
      exact ⟨rfl, Blw.rfl w⟩
    · have d1 : decide (a1 < 1) = false := by simpa using c1
      by_cases c3 : 3 < a1
      · have d3 : decide (3 < a1) = true := by simpa using c3
        clear c1 c3 h1
        go_wp2
        go_ret
        exact ⟨rfl, Blw.rfl w⟩
      · have d3 : decide (3 < a1) = false := by simpa using c3
        obtain ⟨n, rfl⟩ : ∃ n : Nat, a1 = (n : Int) := ⟨a1.toNat, by omega⟩
        have hn1 : 1 ≤ n := by omega
        have hn3 : n ≤ 3 := by omega
        have HST := hid (start_any n 2 w hn1 hn3 HT.out)
        obtain ⟨cb, hcb⟩ : ∃ cb, cb = w.heap.size := ⟨_, rfl⟩
        rw [← hcb] at HST
        have HCB := hid hcb
        clear c1 c3 h1 hcb
        go_wp2_with fail
        refine HST.out.mono ?_
        rintro e w1 ⟨rfl, b1, m1, hc1, hcb1, ho1⟩
        have R1 : Hid (RunAt (fun _ => True) w w1 m1 (CS.start n 2) n 2 0) := ⟨hc1, Ran.start hn1 hn3 2, rfl, rfl, hcb1.trans HCB.out, b1, fun k hk => by have := ((ho1 k).1 hk).1; rw [HCB.out] at this; exact this, trivial⟩
        clear b1 hc1 hcb1 ho1
        go_wp2_with fail
        go_loopw [5, 7] (fun ok i wr => ∃ (k : Nat) (m : CM) (s : CS), k ≤ len ∧ ok = .bool true ∧ i = .int .i64 k ∧ RunAt (fun _ => True) w wr m s n 2 k) (fun _ i _ => len - (intOf i).toNat)
        case atStart => exact ⟨0, _, _, by omega, rfl, rfl, R1.out⟩
        case round =>
          obtain ⟨k, m, s, hk, rfl, rfl, hR⟩ := hrel
          have HR := hid hR
          clear hR
          by_cases hlt : k < len
          · obtain ⟨sb, off, rfl, hLi, hsb⟩ := HH.out.lies (by omega)
            obtain ⟨c0, c1, c2, c3, c4, c5, c6⟩ := (hLi.on (HR.out.bl.bk sb hsb)) k hlt
            have hok := HH.out.ok k hlt
            clear hLi hsb
            obtain ⟨o, ho⟩ : ∃ o, o = ops k := ⟨_, rfl⟩
            rw [← ho] at c0 c1 c2 c3 c4 c5 c6 hok
            clear ho
            obtain ⟨kd, r0, t0, a0, b0, c00, s0⟩ := o
            simp only at c0 c1 c2 c3 c4 c5 c6
            have HOO := hid hok
            have htb := hok.t
            simp only at htb
            clear hok
            obtain ⟨pw, hpw⟩ : ∃ pw : Nat, (pw : Int) = pickN t0 3 := ⟨(pickN t0 3).toNat, by have := pickN_bd t0 3 (by omega); omega⟩
            have hpw3 : pw < 3 := by have := pickN_bd t0 3 (by omega); omega
            have HPK := hid (fun wx => pick_any t0 3 wx htb.1 htb.2 (by omega) (by omega))
            rw [← hpw] at HPK
            have HPW := hid (show (pickN t0 3).toNat = pw by omega)
            clear htb hpw
            obtain ⟨W2, hW2⟩ : ∃ W2, W2 = wr.alloc (.cells #[.int .i64 kd, .int .i64 r0, .int .i64 t0, .int .i64 a0, .int .i64 b0, .int .i64 c00, .string s0] 30) := ⟨_, rfl⟩
            have HW2 := hid hW2
            have b2 : Blw wr W2 := by rw [hW2]; exact (Blw.rfl wr).al _
            have R2 := hid (HR.out.blw b2.dr)
            have hb2 : W2.drew.heap[wr.heap.size]? = some (.cells #[.int .i64 kd, .int .i64 r0, .int .i64 t0, .int .i64 a0, .int .i64 b0, .int .i64 c00, .string s0] 30) := by rw [hW2]; exact hp_new wr _
            obtain ⟨had, hhad⟩ : ∃ had : ByteArray, had = ⟨(s.toks pw).toArray⟩ := ⟨_, rfl⟩
            have hx7 : W2.drew.cell? ⟨cb, 7, none⟩ = some (.slice (some ⟨m.tb, 0, none⟩) 3 m.ct) := by rw [HCB.out, ← R2.out.cb, R2.out.cl.cell]; rfl
            have hxt : W2.drew.cell? ⟨m.tb, pw, none⟩ = some (.string had) := by rw [hhad]; exact R2.out.cl.t0 hpw3
            have hx2 : W2.drew.cell? ⟨wr.heap.size, 2, none⟩ = some (.int .i64 t0) := by rw [blk_cell hb2]; rfl
            have S2 := hid (show (W2.drew.cell? ⟨cb, 7, none⟩ = some (.slice (some ⟨m.tb, 0, none⟩) 3 m.ct) ∧ W2.drew.cell? ⟨m.tb, pw, none⟩ = some (.string had) ∧ W2.drew.cell? ⟨wr.heap.size, 2, none⟩ = some (.int .i64 t0)) from ⟨hx7, hxt, hx2⟩)
            have HHAD := hid hhad
            have hno : ¬ m.own wr.heap.size := fun e => Nat.lt_irrefl _ (HR.out.cl.lim _ e)
            have HSTP := hid (step_cl R2.out.ran.inv R2.out.cl (.inr (.inr R2.out.hmode)) (Nat.le_trans R2.out.ran.lg (by omega)) (Nat.le_trans R2.out.ran.wi (by omega)) (Nat.le_trans R2.out.ran.ak (by omega)) ⟨kd, r0, t0, a0, b0, c00, s0⟩ HOO.out)
            rw [R2.out.cb, ← HCB.out] at HSTP
            simp only [opArr] at HSTP
            have HB2 := hid (And.intro hb2 hno)
            have y0 : W2.drew.cell? ⟨wr.heap.size, 0, none⟩ = some (.int .i64 kd) := by rw [blk_cell hb2]; rfl
            have y1 : W2.drew.cell? ⟨wr.heap.size, 1, none⟩ = some (.int .i64 r0) := by rw [blk_cell hb2]; rfl
            have y3 : W2.drew.cell? ⟨wr.heap.size, 3, none⟩ = some (.int .i64 a0) := by rw [blk_cell hb2]; rfl
            have y4 : W2.drew.cell? ⟨wr.heap.size, 4, none⟩ = some (.int .i64 b0) := by rw [blk_cell hb2]; rfl
            have y5 : W2.drew.cell? ⟨wr.heap.size, 5, none⟩ = some (.int .i64 c00) := by rw [blk_cell hb2]; rfl
            have y6 : W2.drew.cell? ⟨wr.heap.size, 6, none⟩ = some (.string s0) := by rw [blk_cell hb2]; rfl
            have hp0 : (0 : Int) ≤ (pw : Int) := Int.natCast_nonneg _
            have hp1 : (pw : Int) < 3 := by omega
            clear hW2 b2 hb2 hno hhad hx7 hxt
            go_wp2_with fail
            try rw [← HW2.out]
            go_region_held3 (fun w' => w'.cell? ⟨cb, 7, none⟩ = some (.slice (some ⟨m.tb, 0, none⟩) 3 m.ct) ∧ w'.cell? ⟨m.tb, pw, none⟩ = some (.string had) ∧ w'.cell? ⟨wr.heap.size, 2, none⟩ = some (.int .i64 t0)) (exact S2.out)
              (first
                | (go_at_call 12
                   refine (HPK.out _).mono ?_
                   rintro e w3 ⟨rfl, hw3⟩
                   subst w3))
            all_goals
              go_wp2_with fail
              refine HSTP.out.mono ?_
              rintro e w4 ⟨rfl, m', hM⟩
              have hop4 := hM.kp.keep HB2.out.1 HB2.out.2
              have R4 := hid (R2.out.step hM trivial)
              have HCH := hid (fun (hk : 3 ≤ kd ∧ kd ≤ 7) => R2.out.ran.inv.chain R2.out.hmode ⟨kd, r0, t0, a0, b0, c00, s0⟩ hk)
              have HTL := hid (And.intro (R2.out.ran.inv.toks pw hpw3) (And.intro (R4.out.ran.inv.toks pw hpw3) (And.intro R2.out.hn R4.out.hn)))
              obtain ⟨s', hs'⟩ : ∃ s', s' = s.step ⟨kd, r0, t0, a0, b0, c00, s0⟩ := ⟨_, rfl⟩
              rw [← hs'] at R4 HCH HTL hM
              obtain ⟨now, hnow⟩ : ∃ now : ByteArray, now = ⟨(s'.toks pw).toArray⟩ := ⟨_, rfl⟩
              have HNOW := hid hnow
              have z0 : w4.cell? ⟨wr.heap.size, 0, none⟩ = some (.int .i64 kd) := by rw [blk_cell hop4]; rfl
              have S4 := hid (show (w4.drew.cell? ⟨cb, 7, none⟩ = some (.slice (some ⟨m'.tb, 0, none⟩) 3 m'.ct) ∧ w4.drew.cell? ⟨m'.tb, pw, none⟩ = some (.string now) ∧ w4.drew.cell? ⟨wr.heap.size, 2, none⟩ = some (.int .i64 t0)) from ⟨by
                show w4.cell? _ = _
                rw [HCB.out, ← R4.out.cb, R4.out.cl.cell]; rfl, by rw [hnow]; exact R4.out.cl.t0 hpw3, by show w4.cell? _ = _; rw [blk_cell hop4]; rfl⟩)
              have hhs : had.size = n := by
                rw [HHAD.out, ba_size, tok_len HTL.out.1]; exact HTL.out.2.2.1
              have hns : now.size = n := by
                rw [hnow, ba_size, tok_len HTL.out.2.1]; exact HTL.out.2.2.2
              have HLE : Hid (3 ≤ kd ∧ kd ≤ 7 → ∀ i (hi : i < had.size) (hi' : i < now.size), (had[i].toNat : Int) ≤ (now[i].toNat : Int)) := by
                intro hk i hi hi'
                rw [str_get HHAD.out hi, str_get HNOW.out hi']
                have := HCH.out hk i (by rw [HTL.out.2.2.1]; omega)
                simp only [HPW.out] at this
                omega
              clear hM hop4 hs' y0 y1 y3 y4 y5 y6 hx2 c0 c1 c2 c3 c4 c5 c6 hnow HCH
              by_cases g3 : 3 ≤ kd
              · have e3 : decide (3 ≤ kd) = true := by simpa using g3
                by_cases g7 : kd ≤ 7
                · have e7 : decide (kd ≤ 7) = true := by simpa using g7
                  have HLL := hid (HLE.out ⟨g3, g7⟩)
                  clear g3 g7 HLE
                  go_wp2_with fail
                  go_region_held3 (fun w' => w'.cell? ⟨cb, 7, none⟩ = some (.slice (some ⟨m'.tb, 0, none⟩) 3 m'.ct) ∧ w'.cell? ⟨m'.tb, pw, none⟩ = some (.string now) ∧ w'.cell? ⟨wr.heap.size, 2, none⟩ = some (.int .i64 t0)) (exact S4.out)
                    (first
                      | (go_at_call 12
                         refine (HPK.out _).mono ?_
                         rintro e w5 ⟨rfl, hw5⟩
                         subst w5))
                  all_goals
                    go_wp2_with fail
                    go_loopw [5, 11] (fun ok i w6 => ∃ j : Nat, j ≤ n ∧ ok = .bool true ∧ i = .int .i64 j ∧ Blw w4 w6) (fun _ i _ => n - (intOf i).toNat)
                    case atStart => exact ⟨0, by omega, rfl, rfl, (Blw.rfl _).dr⟩
                    case round =>
                      obtain ⟨j, hj, rfl, rfl, hb6⟩ := hrel
                      have B6 := hid hb6
                      clear hb6
                      by_cases hj2 : j < n
                      · have hj3 : j < had.size := by omega
                        have hj4 : j < now.size := by omega
                        have hle := HLL.out j hj3 hj4
                        have hld : decide ((had[j].toNat : Int) ≤ (now[j].toNat : Int)) = true := decide_eq_true hle
                        go_wp2
                        go_quiet (fail)
                        go_wp2
                        go_roundw
                        case rel => exact ⟨j + 1, by omega, rfl, by go_num, Blw.drn B6.out _⟩
                        case measure => simp [intOf]; omega
                      · have hjn : j = n := by omega
                        go_wp2
                        go_roundw
                        case rel => exact ⟨k + 1, m', s', by omega, rfl, by go_num, R4.out.blw B6.out⟩
                        case measure => simp [intOf]; omega
                · have e7 : decide (kd ≤ 7) = false := by simpa using g7
                  clear g3 g7 HLE
                  go_wp2
                  go_roundw
                  case rel => exact ⟨k + 1, m', s', by omega, rfl, by go_num, R4.out⟩
                  case measure => simp [intOf]; omega
              · have e3 : decide (3 ≤ kd) = false := by simpa using g3
                clear g3 HLE
                go_wp2
                go_roundw
                case rel => exact ⟨k + 1, m', s', by omega, rfl, by go_num, R4.out⟩
                case measure => simp [intOf]; omega
          · have hkn : k = len := by omega
            subst hkn
            have B9 := hid HR.out.bl
            go_wp2
            go_ret
            exact ⟨rfl, B9.out⟩
  · clear h1
    go_wp2
    go_ret
    exact ⟨rfl, Blw.rfl w⟩

/-- What the row's list gives: the table, third on the list. -/
theorem tabOfChains {W : World} (h : laidMetH Tryz.prog Rows.chainsRow.laid W) : Tab Tryz.prog W := by
  have h' : laidMet Tryz.prog Rows.chainsRow.laid W := h
  obtain ⟨ps, ⟨g1, t1, cs1, f1, p1, q1, _, _, _, _, ⟨g2, t2, cs2, f2, p2, q2, _, _, _, _, hrest, _⟩, _⟩, _⟩ := h'
  obtain ⟨g', t', cs, fuel, p, q, hg', ht', hvar, hd, _, _⟩ := hrest
  obtain rfl := Option.some.inj (gPow.symm.trans hg')
  obtain rfl := Option.some.inj (gPowType.symm.trans ht')
  unfold Tab Lib.TabIs
  rw [powData] at hd
  rw [hvar, ← Lib.cells_of_tab Tryz.underlying137 Tryz.underlying130 cells88 cells94 hd]

set_option maxRecDepth 100000 in
theorem chains_contract (H : Type) (enc : TypeId × Value → H) (W : World) (base : Nat) (args : Array Value) (ds gs : List (DataW H)) (before : List MemPlace)
    (hval : ∀ (j : Nat) t v, Tryz.f5.params[j]? = some t → args[j]? = some v → Value.okWide Tryz.prog W .any base t v)
    (hW : DataW.Whole enc Tryz.prog Tryz.f5.params.toList Rows.chainsSpec.vars false W args.toList ds gs before)
    (hsz : (DataW.weightsEach Tryz.prog (Tryz.f5.params.toList ++ Rows.chainsSpec.plain.varTypes Tryz.prog) (ds ++ gs)).all (· ≤ reachBytes) = true)
    (hL : laidMetH Tryz.prog Rows.chainsRow.laid W) :
    Calls Tryz.prog 5 args W fun e W' => ∃ v, e = .returned v ∧ Rows.chainsSpec.post enc Tryz.prog Tryz.f5 false true false false W args v W' := by
  have hW' := hW
  obtain ⟨p, q, hA0, hV, rfl, hfz, hnd⟩ := hW
  have hA : DataW.TrodAll enc Tryz.prog W 0 (fun _ => true) true Tryz.f5.params.toList args.toList ds p := hA0
  rw [Tryz.params5] at hA hval
  obtain ⟨v0, vs0, d0, ds0, p0, q0, hargs, rfl, rfl, h0, r0⟩ := trodAll_cons hA
  obtain ⟨v1, vs1, d1, ds1, p1, q1, rfl, rfl, rfl, h1, r1⟩ := trodAll_cons r0
  obtain ⟨rfl, rfl, rfl⟩ := trodAll_nil r1
  obtain rfl : args = #[v0, v1] := by cases args; simp_all
  obtain ⟨rfl, rfl⟩ := trodVars_none hV
  have lt0 : ∀ x ∈ p0, x.block < W.heap.size := by obtain ⟨m, hm⟩ := h0; exact DataW.trod_lt m _ _ _ hm
  obtain ⟨a1, rfl, rfl, rfl, w1⟩ := open_int Tryz.underlying3 (hval 1 3 v1 rfl rfl) h1
  obtain ⟨ad, len, cap, ops, hop⟩ := open_scriptO h0 hsz (okWide_slice Tryz.underlying22 (hval 0 22 v0 rfl rfl))
  clear hA0
  refine (chains_all v0 a1 W (tabOfChains hL) hop (wf_bd w1)).mono fun e W' ⟨he, bel⟩ => ?_
  subst he
  exact ⟨_, rfl, _, _, _, [], _, [], hW', trodAll_mk1 (shut_bool Tryz.underlying4 _), (trodAll_cons_mk (Below.trod laidOut (by kernel_rfl) (of_decide_eq_true (by kernel_rfl)) h0 bel lt0) (trodAll_cons_mk (shut_int Tryz.underlying3 w1) trodAll_mk0)), rfl, bel.frame _, fun h => by cases h⟩
/-- A table's cells. -/
def tabCellsChains : DataW Unit → Array Value
  | .agg ps => (ps.map fun | .lit (.int k n) => Value.int k n | _ => undef).toArray
  | _ => #[]
/-- The three tables laid. -/
def layTabsChains (w : World) : World :=
  { w with heap := ((w.heap.modify 0 fun | .cells _ t frozen => .cells (tabCellsChains Rows.laid_internal_strconv_uint64pow10) t frozen | o => o).modify 1 fun | .cells _ t frozen => .cells (tabCellsChains Rows.laid_math_bits_deBruijn32tab) t frozen | o => o).modify 2 fun | .cells _ t frozen => .cells (tabCellsChains Rows.laid_math_bits_deBruijn64tab) t frozen | o => o }

set_option maxRecDepth 100000 in
theorem chains_lifted (os : Os) (started : os.Started) (H : Type) (enc : TypeId × Value → H) (F : Stop.Interp) :
    ReturnsInHanded {} Tryz.checked os 5 .any ((OpenSpec.ofChange Rows.chainsSpec).preRow enc Tryz.prog Tryz.f5 Rows.chainsRow.domain false Rows.chainsRow.laid) (((OpenSpec.ofChange Rows.chainsSpec).at F).post enc Tryz.prog Tryz.f5 false true false false) := by
  have hl : laidMet Tryz.prog Rows.chainsRow.laid ((layTabsChains (World.holding Tryz.prog os ⟨#[], #[], []⟩)).forCall (fun _ _ => 0) ⟨#[], #[.slice none 0 0, .int .i64 0], []⟩).memory := laidMet_of_run' 8 (by kernel_rfl) (by kernel_rfl)
  obtain ⟨places, hx⟩ : ∃ places, DataW.whole enc Tryz.prog ((layTabsChains (World.holding Tryz.prog os ⟨#[], #[], []⟩)).forCall (fun _ _ => 0) ⟨#[], #[.slice none 0 0, .int .i64 0], []⟩).memory Tryz.f5.params.toList Rows.chainsSpec.vars false #[Value.slice none 0 0, Value.int .i64 0].toList 8 = some ([.nil, .lit (.int .i64 0)], [], places) := ⟨[], by kernel_rfl⟩
  refine returnsInHanded_of_row (C := Tryz.checked) (s := OpenSpec.ofChange Rows.chainsSpec) own started (by kernel_rfl) Tryz.func5
    (witness_row_at (enc := enc) (C := Tryz.checked) false (layTabsChains (World.holding Tryz.prog os ⟨#[], #[], []⟩)) #[.slice none 0 0, .int .i64 0] rfl (by kernel_rfl) (by kernel_rfl) (by kernel_rfl)
      (OpenSpec.preRow_of_cond 8 hx (by kernel_rfl) (fun k hk => by cases hk) (by kernel_rfl) hl)) ?_
  intro W base args ds gs before hval hW _ _ hsz hL _ _
  exact chains_contract H enc W base args ds gs before hval hW hsz hL

theorem chains_said : Rows.ChainsSaid :=
  OpenClaim.holds_of_cond 5 Tryz.f5 rfl rfl rfl rfl rfl rfl rfl ⟨rfl, rfl, rfl, rfl, rfl⟩ rfl rfl rfl rfl rfl (by kernel_rfl) Tryz.func5 (by kernel_rfl)
    (of_decide_eq_true (by kernel_rfl)) (by unfold Func.isWrapper; first | (rw [if_pos (by decide +kernel)]; kernel_rfl) | (rw [if_neg (by decide +kernel)]; exact ⟨rfl, rfl⟩))
    (fun os started H enc _ F => by rw [OpenClaim.pre_eq_preRow]; exact chains_lifted os started H enc F)

theorem chains_plain (f : FuncId) (fn : Func) (hf : Tryz.pinned.checked.prog.funcNamed Tryz.f5.name = some f) (hfn : Tryz.pinned.checked.prog.funcs[f]? = some fn) :
    false = Tryz.pinned.checked.prog.looks [] ∧ ∀ (j : Nat) t, fn.params[j]? = some t → Tryz.pinned.checked.prog.wantsStandIn t = false := by
  obtain rfl : f = 5 := Option.some.inj ((show Tryz.prog.funcNamed Tryz.f5.name = some 5 by kernel_rfl).symm.trans hf) |>.symm
  obtain rfl : fn = Tryz.f5 := (Option.some.inj (Tryz.func5.symm.trans hfn)).symm
  refine ⟨by kernel_rfl, fun j t ht => ?_⟩
  rw [Tryz.params5] at ht
  have hm : t = 22 ∨ t = 3 := by simpa using Array.mem_of_getElem? ht
  rcases hm with rfl | rfl
  · exact (show Tryz.prog.wantsStandIn 22 = false by kernel_rfl)
  · exact (show Tryz.prog.wantsStandIn 3 = false by kernel_rfl)

theorem chains_card : Rows.ChainsCardSaid :=
  Claim7.holds_tied_plain_at .later [] _ _ _ _ chains_said (fun _ h => by cases h) (by kernel_rfl) (fun _ h => by cases h) chains_row_tie rfl ⟨rfl, rfl⟩ (by kernel_rfl) rfl chains_plain (by kernel_rfl)
#print axioms chains_card
end Go.Proofs.YtalaldfgjgpacabGreatDoor
