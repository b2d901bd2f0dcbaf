import Derived.Test.YtalaldfgjgpacabGreatDoorBHAV
import Derived.Test.YtalaldfgjgpacabGreatDoorZ5
import Derived.Test.YtalaldfgjgpacabGreatDoorChecked
import Derived.BigQuiet
namespace Go.Proofs.YtalaldfgjgpacabGreatDoor
set_option linter.unusedVariables false
set_option linter.unusedSimpArgs false
open Go.RowKit
attribute [local go_sem ↓] Go.wp_at_zero Go.wp_at_succ

open Go.ChangeShapes Go.WideShapes Go.ChangeAt Go.Deep

theorem Inv.mode {s : CS} (h : Inv s) (k : Int) : Inv { s with mode := k } := ⟨h.core, h.toks, h.owns, h.tok, h.snap⟩

set_option maxRecDepth 100000 in
set_option maxHeartbeats 8000000 in
/-- Blind, whatever the script and the number. -/
theorem blind_all (v : Value) (a1 : Int) (w : World) (ht : Tab Tryz.prog w) {ad : Option Addr} {len cap : Nat} {ops : Nat → OpR} (h : ScriptAt w v ad len cap ops) (h1 : i64ok a1) :
    Calls Tryz.prog 6 #[v, .int .i64 a1] w fun e w' => e = .returned (.bool true) ∧ Below w.heap.size w w' := by
  have HSM := hid (small_at h)
  have HH := hid h
  have HT := hid ht
  obtain ⟨rfl, -, -, -, -⟩ := h
  clear ht
  go_enter Tryz.func6, Tryz.ntmps6
  go_wp2_with fail
  refine HSM.out.mono ?_
  rintro e w2 ⟨he, hw2⟩
  subst w2
  rcases he with ⟨rfl, hlen⟩ | rfl
  · by_cases c1 : a1 < 1
    · have d1 : decide (a1 < 1) = true := by simpa using c1
      clear c1 h1
      go_wp2
      go_ret
      exact ⟨rfl, Blw.rfl w⟩
    · have d1 : decide (a1 < 1) = false := by simpa using c1
      by_cases c3 : 3 < a1
      · have d3 : decide (3 < a1) = true := by simpa using c3
        clear c1 c3 h1
        go_wp2
        go_ret
        exact ⟨rfl, Blw.rfl w⟩
      · have d3 : decide (3 < a1) = false := by simpa using c3
        obtain ⟨n, rfl⟩ : ∃ n : Nat, a1 = (n : Int) := ⟨a1.toNat, by omega⟩
        have hn1 : 1 ≤ n := by omega
        have hn3 : n ≤ 3 := by omega
        have HST := hid (start_any n 0 w hn1 hn3 HT.out)
        clear c1 c3 h1
        go_wp2_with fail
        refine HST.out.mono ?_
        rintro e w1 ⟨rfl, b1, m1, hc1, hcb1, ho1, hf1⟩
        have HST2 := hid (start_any n 1 w1 hn1 hn3 (HT.out.blw b1))
        have S1 := hid (And.intro b1 (And.intro hc1 (And.intro hcb1 (And.intro ho1 hf1))))
        clear b1 hc1 hcb1 ho1 hf1
        go_wp2_with fail
        refine HST2.out.mono ?_
        rintro e w2 ⟨rfl, b2, m2, hc2, hcb2, ho2, hf2⟩
        have T0 : Hid (Two w w2 m1 m2 (CS.start n 0) { CS.start n 0 with mode := 1 } n) := Two.start S1.out.2.1 hc2 S1.out.1 b2 S1.out.2.2.2.1 ho2 S1.out.2.2.2.2 hf2
        obtain ⟨cb1, hcb1⟩ : ∃ cb1, cb1 = w.heap.size := ⟨_, rfl⟩
        obtain ⟨cb2, hcb2'⟩ : ∃ cb2, cb2 = w1.heap.size := ⟨_, rfl⟩
        have CB := hid (show m1.cb = cb1 ∧ m2.cb = cb2 by rw [hcb1, hcb2']; exact ⟨S1.out.2.2.1, hcb2⟩)
        rw [← hcb1, ← hcb2']
        clear b2 hc2 hcb2 ho2 hf2 hcb1 hcb2'
        go_wp2_with fail
        go_loopw [5, 10] (fun ok i wr => ∃ (k : Nat) (m1 m2 : CM) (s : CS), k ≤ len ∧ ok = .bool true ∧ i = .int .i64 k ∧ Two w wr m1 m2 s { s with mode := 1 } n ∧ Ran s k ∧ s.n = n ∧ s.mode = 0 ∧ m1.cb = cb1 ∧ m2.cb = cb2) (fun _ i _ => len - (intOf i).toNat)
        case atStart => exact ⟨0, m1, m2, CS.start n 0, by omega, rfl, rfl, T0.out, Ran.start hn1 hn3 0, rfl, rfl, CB.out.1, CB.out.2⟩
        case round =>
          obtain ⟨k, m1, m2, s, hk, rfl, rfl, hT, hRn, hsn, hsm, hm1, hm2⟩ := hrel
          have HR := hid (And.intro hT (And.intro hRn (And.intro hsn (And.intro hsm (And.intro hm1 hm2)))))
          clear hT hRn hsn hsm hm1 hm2
          by_cases hlt : k < len
          · obtain ⟨sb, off, rfl, hLi, hsb⟩ := HH.out.lies (by omega)
            obtain ⟨c0, c1, c2, c3, c4, c5, c6⟩ := (hLi.on (HR.out.1.bl.bk sb hsb)) k hlt
            have hok := HH.out.ok k hlt
            clear hLi hsb
            obtain ⟨o, ho⟩ : ∃ o, o = ops k := ⟨_, rfl⟩
            rw [← ho] at c0 c1 c2 c3 c4 c5 c6 hok
            clear ho
            obtain ⟨kd, r0, t0, a0, b0, c00, s0⟩ := o
            simp only at c0 c1 c2 c3 c4 c5 c6
            have HOO := hid hok
            clear hok
            obtain ⟨W2, hW2⟩ : ∃ W2, W2 = wr.alloc (.cells #[.int .i64 kd, .int .i64 r0, .int .i64 t0, .int .i64 a0, .int .i64 b0, .int .i64 c00, .string s0] 30) := ⟨_, rfl⟩
            have HW2 := hid hW2
            have b2 : Blw wr W2 := by rw [hW2]; exact (Blw.rfl wr).al _
            have T2 := hid (HR.out.1.blw b2)
            have hb2 : W2.heap[wr.heap.size]? = some (.cells #[.int .i64 kd, .int .i64 r0, .int .i64 t0, .int .i64 a0, .int .i64 b0, .int .i64 c00, .string s0] 30) := by rw [hW2]; exact hp_new wr _
            have hno1 : ¬ m1.own wr.heap.size := fun e => Nat.lt_irrefl _ (HR.out.1.c1.lim _ e)
            have HB2 := hid (And.intro hb2 hno1)
            have RN := HR.out.2.1
            have HSTP := hid (step_cl RN.inv T2.out.c1 (.inl HR.out.2.2.2.1) (Nat.le_trans RN.lg (by omega)) (Nat.le_trans RN.wi (by omega)) (Nat.le_trans RN.ak (by omega)) ⟨kd, r0, t0, a0, b0, c00, s0⟩ HOO.out)
            rw [HR.out.2.2.2.2.1] at HSTP
            simp only [opArr] at HSTP
            clear hW2 b2 hb2 hno1 RN
            go_wp2_with fail
            try rw [← HW2.out]
            refine HSTP.out.mono ?_
            rintro e w4 ⟨rfl, m1', hM⟩
            have hop4 := hM.kp.keep HB2.out.1 HB2.out.2
            have T4 := hid (T2.out.one hM)
            have cbA := hM.cb.trans HR.out.2.2.2.2.1
            have RN := HR.out.2.1
            have HSTQ := hid (step_cl (RN.inv.mode 1) T4.out.c2 (.inr (.inl rfl)) (Nat.le_trans RN.lg (by omega)) (Nat.le_trans RN.wi (by omega)) (Nat.le_trans RN.ak (by omega)) ⟨kd, r0, t0, a0, b0, c00, s0⟩ HOO.out)
            rw [HR.out.2.2.2.2.2, RN.inv.blind HR.out.2.2.2.1] at HSTQ
            simp only [opArr] at HSTQ
            have RN4 := hid (RN.step ⟨kd, r0, t0, a0, b0, c00, s0⟩)
            have y0 : w4.cell? ⟨wr.heap.size, 0, none⟩ = some (.int .i64 kd) := by rw [blk_cell hop4]; rfl
            have y1 : w4.cell? ⟨wr.heap.size, 1, none⟩ = some (.int .i64 r0) := by rw [blk_cell hop4]; rfl
            have y2 : w4.cell? ⟨wr.heap.size, 2, none⟩ = some (.int .i64 t0) := by rw [blk_cell hop4]; rfl
            have y3 : w4.cell? ⟨wr.heap.size, 3, none⟩ = some (.int .i64 a0) := by rw [blk_cell hop4]; rfl
            have y4 : w4.cell? ⟨wr.heap.size, 4, none⟩ = some (.int .i64 b0) := by rw [blk_cell hop4]; rfl
            have y5 : w4.cell? ⟨wr.heap.size, 5, none⟩ = some (.int .i64 c00) := by rw [blk_cell hop4]; rfl
            have y6 : w4.cell? ⟨wr.heap.size, 6, none⟩ = some (.string s0) := by rw [blk_cell hop4]; rfl
            clear hM hop4 RN c0 c1 c2 c3 c4 c5 c6
            go_wp2_with fail
            refine HSTQ.out.mono ?_
            rintro e w5 ⟨rfl, m2', hM⟩
            obtain ⟨s', hs'⟩ : ∃ s', s' = s.step ⟨kd, r0, t0, a0, b0, c00, s0⟩ := ⟨_, rfl⟩
            have hM' : Moved w4 w5 m2 m2' { s.step ⟨kd, r0, t0, a0, b0, c00, s0⟩ with mode := 1 } := hM
            have T5' := (T4.out.swap.one hM').swap
            have cbB := hM.cb.trans HR.out.2.2.2.2.2
            rw [← hs'] at T5' RN4
            have T5 := hid T5'
            have RQ := hid (show Ran s' (k + 1) ∧ s'.n = n ∧ s'.mode = 0 from ⟨RN4.out.1, RN4.out.2.1.trans HR.out.2.2.1, RN4.out.2.2.trans HR.out.2.2.2.1⟩)
            have CB5 := hid (And.intro cbA cbB)
            obtain ⟨sa, hsa⟩ : ∃ sa : ByteArray, sa = ⟨s'.said.toArray⟩ := ⟨_, rfl⟩
            have x9 : w5.cell? ⟨cb1, 9, none⟩ = some (.string sa) := by rw [← cbA, T5'.c1.cell, hsa]; rfl
            have z9 : w5.cell? ⟨cb2, 9, none⟩ = some (.string sa) := by rw [← cbB, T5'.c2.cell, hsa]; rfl
            have x10 : w5.cell? ⟨cb1, 10, none⟩ = some (.int .i64 s'.err) := by rw [← cbA, T5'.c1.cell]; rfl
            have z10 : w5.cell? ⟨cb2, 10, none⟩ = some (.int .i64 s'.err) := by rw [← cbB, T5'.c2.cell]; rfl
            clear hM hM' hs' T5' cbA cbB hsa y0 y1 y2 y3 y4 y5 y6
            go_wp2_with fail
            go_quiet (fail)
            have B55 := hid (show Blw w5 (w5.drewN nq) from Blw.drn (Blw.rfl _) _)
            go_wp2_with fail
            go_loopw [5, 12] (fun ok r w6 => ∃ j : Nat, j ≤ n ∧ r = .int .i64 j ∧ ok = .bool true ∧ Blw w5 w6) (fun _ r _ => n - (intOf r).toNat)
            case atStart => exact ⟨0, by omega, rfl, rfl, B55.out⟩
            case round =>
              obtain ⟨j, hj, rfl, rfl, hb6⟩ := hrel
              by_cases hj2 : j < n
              · have T6 := T5.out.blw hb6
                have hjs : j < s'.n := by rw [RQ.out.2.1]; exact hj2
                have n3 := T6.c1.n3
                have hpk := RQ.out.1.inv.pok hjs
                have u2 : wr.cell? ⟨cb1, 2, none⟩ = some (.slice (some ⟨m1'.xb, 0, none⟩) n m1'.cx) := by rw [← CB5.out.1, T6.c1.cell, ← RQ.out.2.1]; rfl
                have v2 : wr.cell? ⟨cb2, 2, none⟩ = some (.slice (some ⟨m2'.xb, 0, none⟩) n m2'.cx) := by rw [← CB5.out.2, T6.c2.cell, ← RQ.out.2.1]; rfl
                have ux := T6.c1.x0 hjs
                have vx := T6.c2.x0 (show j < ({ s' with mode := 1 } : CS).n from hjs)
                have HL1 := hid (log_any (m1'.b j) j s'.n (s'.p j) (s'.x j) wr (T6.c1.xs.rep j hjs))
                have HL2 := hid (log_any (m2'.b j) j s'.n (s'.p j) (s'.x j) wr (T6.c2.xs.rep j hjs))
                have HS1 := hid (state_any (m1'.b j) j s'.n (s'.p j) wr n3 hpk (T6.c1.xs.rep j hjs))
                have HS2 := hid (fun (wx : World) (hb : Blw wr wx) => state_any (m2'.b j) j s'.n (s'.p j) wx n3 hpk (hb.bk' (T6.c2.xs.rep j hjs)))
                obtain ⟨lg, hlg⟩ : ∃ lg : ByteArray, lg = ⟨(s'.x j).log.toArray⟩ := ⟨_, rfl⟩
                obtain ⟨st, hst⟩ : ∃ st : ByteArray, st = ⟨((s'.p j).digsTo s'.n ++ [59] ++ (s'.p j).entTo 12).toArray⟩ := ⟨_, rfl⟩
                rw [← hlg] at HL1 HL2
                rw [← hst] at HS1 HS2
                have hj0 : (0 : Int) ≤ (j : Int) := Int.natCast_nonneg _
                have hj1 : (j : Int) < (n : Int) := by omega
                have B6 := hid hb6
                clear hb6 T6 hpk hlg hst
                go_wp2_with fail
                refine HL1.out.mono ?_
                rintro e wl1 ⟨rfl, hw1⟩
                subst wl1
                go_wp2_with fail
                refine HL2.out.mono ?_
                rintro e wl2 ⟨rfl, hw2⟩
                subst wl2
                go_wp2_with fail
                refine HS1.out.mono ?_
                rintro e w7 ⟨rfl, b7⟩
                have B7 := hid b7
                clear b7
                go_wp2_with fail
                refine (HS2.out _ B7.out).mono ?_
                rintro e w8 ⟨rfl, b8⟩
                have B8 := hid ((B6.out.tr B7.out).tr b8)
                clear b8
                go_wp2
                go_roundw
                case rel => exact ⟨j + 1, by omega, by go_num, rfl, B8.out⟩
                case measure => simp [intOf]; omega
              · have hjn : j = n := by omega
                have T6 := hid (T5.out.blw hb6)
                clear hb6
                go_wp2
                go_roundw
                case rel => exact ⟨k + 1, m1', m2', s', by omega, rfl, by go_num, T6.out, RQ.out.1, RQ.out.2.1, RQ.out.2.2, CB5.out.1, CB5.out.2⟩
                case measure => simp [intOf]; omega
          · have hkn : k = len := by omega
            subst hkn
            have B9 := hid HR.out.1.bl
            go_wp2
            go_ret
            exact ⟨rfl, B9.out⟩
  · clear h1
    go_wp2
    go_ret
    exact ⟨rfl, Blw.rfl w⟩

/-- What the row's list gives: the table, third on the list. -/
theorem tabOfBlind {W : World} (h : laidMetH Tryz.prog Rows.blindRow.laid W) : Tab Tryz.prog W := by
  have h' : laidMet Tryz.prog Rows.blindRow.laid W := h
  obtain ⟨ps, ⟨g1, t1, cs1, f1, p1, q1, _, _, _, _, ⟨g2, t2, cs2, f2, p2, q2, _, _, _, _, hrest, _⟩, _⟩, _⟩ := h'
  obtain ⟨g', t', cs, fuel, p, q, hg', ht', hvar, hd, _, _⟩ := hrest
  obtain rfl := Option.some.inj (gPow.symm.trans hg')
  obtain rfl := Option.some.inj (gPowType.symm.trans ht')
  unfold Tab Lib.TabIs
  rw [powData] at hd
  rw [hvar, ← Lib.cells_of_tab Tryz.underlying137 Tryz.underlying130 cells88 cells94 hd]

set_option maxRecDepth 100000 in
theorem blind_contract (H : Type) (enc : TypeId × Value → H) (W : World) (base : Nat) (args : Array Value) (ds gs : List (DataW H)) (before : List MemPlace)
    (hval : ∀ (j : Nat) t v, Tryz.f6.params[j]? = some t → args[j]? = some v → Value.okWide Tryz.prog W .any base t v)
    (hW : DataW.Whole enc Tryz.prog Tryz.f6.params.toList Rows.blindSpec.vars false W args.toList ds gs before)
    (hsz : (DataW.weightsEach Tryz.prog (Tryz.f6.params.toList ++ Rows.blindSpec.plain.varTypes Tryz.prog) (ds ++ gs)).all (· ≤ reachBytes) = true)
    (hL : laidMetH Tryz.prog Rows.blindRow.laid W) :
    Calls Tryz.prog 6 args W fun e W' => ∃ v, e = .returned v ∧ Rows.blindSpec.post enc Tryz.prog Tryz.f6 false true false false W args v W' := by
  have hW' := hW
  obtain ⟨p, q, hA0, hV, rfl, hfz, hnd⟩ := hW
  have hA : DataW.TrodAll enc Tryz.prog W 0 (fun _ => true) true Tryz.f6.params.toList args.toList ds p := hA0
  rw [Tryz.params6] at hA hval
  obtain ⟨v0, vs0, d0, ds0, p0, q0, hargs, rfl, rfl, h0, r0⟩ := trodAll_cons hA
  obtain ⟨v1, vs1, d1, ds1, p1, q1, rfl, rfl, rfl, h1, r1⟩ := trodAll_cons r0
  obtain ⟨rfl, rfl, rfl⟩ := trodAll_nil r1
  obtain rfl : args = #[v0, v1] := by cases args; simp_all
  obtain ⟨rfl, rfl⟩ := trodVars_none hV
  have lt0 : ∀ x ∈ p0, x.block < W.heap.size := by obtain ⟨m, hm⟩ := h0; exact DataW.trod_lt m _ _ _ hm
  obtain ⟨a1, rfl, rfl, rfl, w1⟩ := open_int Tryz.underlying3 (hval 1 3 v1 rfl rfl) h1
  obtain ⟨ad, len, cap, ops, hop⟩ := open_scriptO h0 hsz (okWide_slice Tryz.underlying22 (hval 0 22 v0 rfl rfl))
  clear hA0
  refine (blind_all v0 a1 W (tabOfBlind hL) hop (wf_bd w1)).mono fun e W' ⟨he, bel⟩ => ?_
  subst he
  exact ⟨_, rfl, _, _, _, [], _, [], hW', trodAll_mk1 (shut_bool Tryz.underlying4 _), (trodAll_cons_mk (Below.trod laidOut (by kernel_rfl) (of_decide_eq_true (by kernel_rfl)) h0 bel lt0) (trodAll_cons_mk (shut_int Tryz.underlying3 w1) trodAll_mk0)), rfl, bel.frame _, fun h => by cases h⟩
/-- A table's cells. -/
def tabCellsBlind : DataW Unit → Array Value
  | .agg ps => (ps.map fun | .lit (.int k n) => Value.int k n | _ => undef).toArray
  | _ => #[]
/-- The three tables laid. -/
def layTabsBlind (w : World) : World :=
  { w with heap := ((w.heap.modify 0 fun | .cells _ t frozen => .cells (tabCellsBlind Rows.laid_internal_strconv_uint64pow10) t frozen | o => o).modify 1 fun | .cells _ t frozen => .cells (tabCellsBlind Rows.laid_math_bits_deBruijn32tab) t frozen | o => o).modify 2 fun | .cells _ t frozen => .cells (tabCellsBlind Rows.laid_math_bits_deBruijn64tab) t frozen | o => o }

set_option maxRecDepth 100000 in
theorem blind_lifted (os : Os) (started : os.Started) (H : Type) (enc : TypeId × Value → H) (F : Stop.Interp) :
    ReturnsInHanded {} Tryz.checked os 6 .any ((OpenSpec.ofChange Rows.blindSpec).preRow enc Tryz.prog Tryz.f6 Rows.blindRow.domain false Rows.blindRow.laid) (((OpenSpec.ofChange Rows.blindSpec).at F).post enc Tryz.prog Tryz.f6 false true false false) := by
  have hl : laidMet Tryz.prog Rows.blindRow.laid ((layTabsBlind (World.holding Tryz.prog os ⟨#[], #[], []⟩)).forCall (fun _ _ => 0) ⟨#[], #[.slice none 0 0, .int .i64 0], []⟩).memory := laidMet_of_run' 8 (by kernel_rfl) (by kernel_rfl)
  obtain ⟨places, hx⟩ : ∃ places, DataW.whole enc Tryz.prog ((layTabsBlind (World.holding Tryz.prog os ⟨#[], #[], []⟩)).forCall (fun _ _ => 0) ⟨#[], #[.slice none 0 0, .int .i64 0], []⟩).memory Tryz.f6.params.toList Rows.blindSpec.vars false #[Value.slice none 0 0, Value.int .i64 0].toList 8 = some ([.nil, .lit (.int .i64 0)], [], places) := ⟨[], by kernel_rfl⟩
  refine returnsInHanded_of_row (C := Tryz.checked) (s := OpenSpec.ofChange Rows.blindSpec) own started (by kernel_rfl) Tryz.func6
    (witness_row_at (enc := enc) (C := Tryz.checked) false (layTabsBlind (World.holding Tryz.prog os ⟨#[], #[], []⟩)) #[.slice none 0 0, .int .i64 0] rfl (by kernel_rfl) (by kernel_rfl) (by kernel_rfl)
      (OpenSpec.preRow_of_cond 8 hx (by kernel_rfl) (fun k hk => by cases hk) (by kernel_rfl) hl)) ?_
  intro W base args ds gs before hval hW _ _ hsz hL _ _
  exact blind_contract H enc W base args ds gs before hval hW hsz hL

theorem blind_said : Rows.BlindSaid :=
  OpenClaim.holds_of_cond 6 Tryz.f6 rfl rfl rfl rfl rfl rfl rfl ⟨rfl, rfl, rfl, rfl, rfl⟩ rfl rfl rfl rfl rfl (by kernel_rfl) Tryz.func6 (by kernel_rfl)
    (of_decide_eq_true (by kernel_rfl)) (by unfold Func.isWrapper; first | (rw [if_pos (by decide +kernel)]; kernel_rfl) | (rw [if_neg (by decide +kernel)]; exact ⟨rfl, rfl⟩))
    (fun os started H enc _ F => by rw [OpenClaim.pre_eq_preRow]; exact blind_lifted os started H enc F)

theorem blind_plain (f : FuncId) (fn : Func) (hf : Tryz.pinned.checked.prog.funcNamed Tryz.f6.name = some f) (hfn : Tryz.pinned.checked.prog.funcs[f]? = some fn) :
    false = Tryz.pinned.checked.prog.looks [] ∧ ∀ (j : Nat) t, fn.params[j]? = some t → Tryz.pinned.checked.prog.wantsStandIn t = false := by
  obtain rfl : f = 6 := Option.some.inj ((show Tryz.prog.funcNamed Tryz.f6.name = some 6 by kernel_rfl).symm.trans hf) |>.symm
  obtain rfl : fn = Tryz.f6 := (Option.some.inj (Tryz.func6.symm.trans hfn)).symm
  refine ⟨by kernel_rfl, fun j t ht => ?_⟩
  rw [Tryz.params6] at ht
  have hm : t = 22 ∨ t = 3 := by simpa using Array.mem_of_getElem? ht
  rcases hm with rfl | rfl
  · exact (show Tryz.prog.wantsStandIn 22 = false by kernel_rfl)
  · exact (show Tryz.prog.wantsStandIn 3 = false by kernel_rfl)

theorem blind_card : Rows.BlindCardSaid :=
  Claim7.holds_tied_plain_at .later [] _ _ _ _ blind_said (fun _ h => by cases h) (by kernel_rfl) (fun _ h => by cases h) blind_row_tie rfl ⟨rfl, rfl⟩ (by kernel_rfl) rfl blind_plain (by kernel_rfl)
#print axioms blind_card
end Go.Proofs.YtalaldfgjgpacabGreatDoor
