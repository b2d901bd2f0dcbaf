import Derived.Test.YtalaldfgjgpacabGreatDoorHAV
import Derived.Test.YtalaldfgjgpacabGreatDoorQE
import Derived.Test.YtalaldfgjgpacabGreatDoorChecked
namespace Go.Proofs.YtalaldfgjgpacabGreatDoor
set_option linter.unusedVariables false
set_option linter.unusedSimpArgs false
open Go.RowKit
attribute [local go_sem ↓] Go.wp_at_zero Go.wp_at_succ

open Go.ChangeShapes Go.WideShapes Go.ChangeAt Go.Deep

set_option maxRecDepth 100000 in
set_option maxHeartbeats 2000000 in
/-- Meets, whatever the script and the number. -/
theorem meets_all (v : Value) (a1 : Int) (w : World) (ht : Tab Tryz.prog w) {ad : Option Addr} {len cap : Nat} {ops : Nat → OpR} (h : ScriptAt w v ad len cap ops) (h1 : i64ok a1) :
    Calls Tryz.prog 4 #[v, .int .i64 a1] w fun e w' => e = .returned (.bool true) ∧ Below w.heap.size w w' := by
  have HSM := hid (small_at h)
  have HH := hid h
  have HT := hid ht
  clear h ht
  go_enter Tryz.func4, Tryz.ntmps4
  go_wp2_with fail
  refine HSM.out.mono ?_
  rintro e w2 ⟨he, hw2⟩
  subst w2
  rcases he with ⟨rfl, hlen⟩ | rfl
  · by_cases c1 : a1 < 1
    · have d1 : decide (a1 < 1) = true := by simpa using c1
      clear c1 h1
      go_wp2
      go_ret
      exact ⟨rfl, Blw.rfl w⟩
    · have d1 : decide (a1 < 1) = false := by simpa using c1
      by_cases c3 : 3 < a1
      · have d3 : decide (3 < a1) = true := by simpa using c3
        clear c1 c3 h1
        go_wp2
        go_ret
        exact ⟨rfl, Blw.rfl w⟩
      · have d3 : decide (3 < a1) = false := by simpa using c3
        obtain ⟨n, rfl⟩ : ∃ n : Nat, a1 = (n : Int) := ⟨a1.toNat, by omega⟩
        have HRN := hid (runs_3 (fun _ => True) ops len cap n ad 0 13 w (by omega) (by omega) (.inl rfl) hlen HH.out.ok trivial (fun _ _ _ _ _ _ _ => trivial) HH.out.lies HT.out)
        rw [← HH.out.val] at HRN
        clear c1 c3 h1
        go_wp2_with fail
        refine HRN.out.mono ?_
        rintro e w3 ⟨rfl, m, s, hR⟩
        have B3 := hid hR.bl
        clear hR
        go_wp2
        go_ret
        exact ⟨rfl, B3.out⟩
  · clear h1
    go_wp2
    go_ret
    exact ⟨rfl, Blw.rfl w⟩

/-- What the row's list gives: the table, third on the list. -/
theorem tabOfMeets {W : World} (h : laidMetH Tryz.prog Rows.meetsRow.laid W) : Tab Tryz.prog W := by
  have h' : laidMet Tryz.prog Rows.meetsRow.laid W := h
  obtain ⟨ps, ⟨g1, t1, cs1, f1, p1, q1, _, _, _, _, ⟨g2, t2, cs2, f2, p2, q2, _, _, _, _, hrest, _⟩, _⟩, _⟩ := h'
  obtain ⟨g', t', cs, fuel, p, q, hg', ht', hvar, hd, _, _⟩ := hrest
  obtain rfl := Option.some.inj (gPow.symm.trans hg')
  obtain rfl := Option.some.inj (gPowType.symm.trans ht')
  unfold Tab Lib.TabIs
  rw [powData] at hd
  rw [hvar, ← Lib.cells_of_tab Tryz.underlying137 Tryz.underlying130 cells88 cells94 hd]

set_option maxRecDepth 100000 in
theorem meets_contract (H : Type) (enc : TypeId × Value → H) (W : World) (base : Nat) (args : Array Value) (ds gs : List (DataW H)) (before : List MemPlace)
    (hval : ∀ (j : Nat) t v, Tryz.f4.params[j]? = some t → args[j]? = some v → Value.okWide Tryz.prog W .any base t v)
    (hW : DataW.Whole enc Tryz.prog Tryz.f4.params.toList Rows.meetsSpec.vars false W args.toList ds gs before)
    (hsz : (DataW.weightsEach Tryz.prog (Tryz.f4.params.toList ++ Rows.meetsSpec.plain.varTypes Tryz.prog) (ds ++ gs)).all (· ≤ reachBytes) = true)
    (hL : laidMetH Tryz.prog Rows.meetsRow.laid W) :
    Calls Tryz.prog 4 args W fun e W' => ∃ v, e = .returned v ∧ Rows.meetsSpec.post enc Tryz.prog Tryz.f4 false true false false W args v W' := by
  have hW' := hW
  obtain ⟨p, q, hA0, hV, rfl, hfz, hnd⟩ := hW
  have hA : DataW.TrodAll enc Tryz.prog W 0 (fun _ => true) true Tryz.f4.params.toList args.toList ds p := hA0
  rw [Tryz.params4] at hA hval
  obtain ⟨v0, vs0, d0, ds0, p0, q0, hargs, rfl, rfl, h0, r0⟩ := trodAll_cons hA
  obtain ⟨v1, vs1, d1, ds1, p1, q1, rfl, rfl, rfl, h1, r1⟩ := trodAll_cons r0
  obtain ⟨rfl, rfl, rfl⟩ := trodAll_nil r1
  obtain rfl : args = #[v0, v1] := by cases args; simp_all
  obtain ⟨rfl, rfl⟩ := trodVars_none hV
  have lt0 : ∀ x ∈ p0, x.block < W.heap.size := by obtain ⟨m, hm⟩ := h0; exact DataW.trod_lt m _ _ _ hm
  obtain ⟨a1, rfl, rfl, rfl, w1⟩ := open_int Tryz.underlying3 (hval 1 3 v1 rfl rfl) h1
  obtain ⟨ad, len, cap, ops, hop⟩ := open_scriptO h0 hsz (okWide_slice Tryz.underlying22 (hval 0 22 v0 rfl rfl))
  clear hA0
  refine (meets_all v0 a1 W (tabOfMeets hL) hop (wf_bd w1)).mono fun e W' ⟨he, bel⟩ => ?_
  subst he
  exact ⟨_, rfl, _, _, _, [], _, [], hW', trodAll_mk1 (shut_bool Tryz.underlying4 _), (trodAll_cons_mk (Below.trod laidOut (by kernel_rfl) (of_decide_eq_true (by kernel_rfl)) h0 bel lt0) (trodAll_cons_mk (shut_int Tryz.underlying3 w1) trodAll_mk0)), rfl, bel.frame _, fun h => by cases h⟩
/-- A table's cells. -/
def tabCellsMeets : DataW Unit → Array Value
  | .agg ps => (ps.map fun | .lit (.int k n) => Value.int k n | _ => undef).toArray
  | _ => #[]
/-- The three tables laid. -/
def layTabsMeets (w : World) : World :=
  { w with heap := ((w.heap.modify 0 fun | .cells _ t frozen => .cells (tabCellsMeets Rows.laid_internal_strconv_uint64pow10) t frozen | o => o).modify 1 fun | .cells _ t frozen => .cells (tabCellsMeets Rows.laid_math_bits_deBruijn32tab) t frozen | o => o).modify 2 fun | .cells _ t frozen => .cells (tabCellsMeets Rows.laid_math_bits_deBruijn64tab) t frozen | o => o }

set_option maxRecDepth 100000 in
theorem meets_lifted (os : Os) (started : os.Started) (H : Type) (enc : TypeId × Value → H) (F : Stop.Interp) :
    ReturnsInHanded {} Tryz.checked os 4 .any ((OpenSpec.ofChange Rows.meetsSpec).preRow enc Tryz.prog Tryz.f4 Rows.meetsRow.domain false Rows.meetsRow.laid) (((OpenSpec.ofChange Rows.meetsSpec).at F).post enc Tryz.prog Tryz.f4 false true false false) := by
  have hl : laidMet Tryz.prog Rows.meetsRow.laid ((layTabsMeets (World.holding Tryz.prog os ⟨#[], #[], []⟩)).forCall (fun _ _ => 0) ⟨#[], #[.slice none 0 0, .int .i64 0], []⟩).memory := laidMet_of_run' 8 (by kernel_rfl) (by kernel_rfl)
  obtain ⟨places, hx⟩ : ∃ places, DataW.whole enc Tryz.prog ((layTabsMeets (World.holding Tryz.prog os ⟨#[], #[], []⟩)).forCall (fun _ _ => 0) ⟨#[], #[.slice none 0 0, .int .i64 0], []⟩).memory Tryz.f4.params.toList Rows.meetsSpec.vars false #[Value.slice none 0 0, Value.int .i64 0].toList 8 = some ([.nil, .lit (.int .i64 0)], [], places) := ⟨[], by kernel_rfl⟩
  refine returnsInHanded_of_row (C := Tryz.checked) (s := OpenSpec.ofChange Rows.meetsSpec) own started (by kernel_rfl) Tryz.func4
    (witness_row_at (enc := enc) (C := Tryz.checked) false (layTabsMeets (World.holding Tryz.prog os ⟨#[], #[], []⟩)) #[.slice none 0 0, .int .i64 0] rfl (by kernel_rfl) (by kernel_rfl) (by kernel_rfl)
      (OpenSpec.preRow_of_cond 8 hx (by kernel_rfl) (fun k hk => by cases hk) (by kernel_rfl) hl)) ?_
  intro W base args ds gs before hval hW _ _ hsz hL _ _
  exact meets_contract H enc W base args ds gs before hval hW hsz hL

theorem meets_said : Rows.MeetsSaid :=
  OpenClaim.holds_of_cond 4 Tryz.f4 rfl rfl rfl rfl rfl rfl rfl ⟨rfl, rfl, rfl, rfl, rfl⟩ rfl rfl rfl rfl rfl (by kernel_rfl) Tryz.func4 (by kernel_rfl)
    (of_decide_eq_true (by kernel_rfl)) (by unfold Func.isWrapper; first | (rw [if_pos (by decide +kernel)]; kernel_rfl) | (rw [if_neg (by decide +kernel)]; exact ⟨rfl, rfl⟩))
    (fun os started H enc _ F => by rw [OpenClaim.pre_eq_preRow]; exact meets_lifted os started H enc F)

theorem meets_plain (f : FuncId) (fn : Func) (hf : Tryz.pinned.checked.prog.funcNamed Tryz.f4.name = some f) (hfn : Tryz.pinned.checked.prog.funcs[f]? = some fn) :
    false = Tryz.pinned.checked.prog.looks [] ∧ ∀ (j : Nat) t, fn.params[j]? = some t → Tryz.pinned.checked.prog.wantsStandIn t = false := by
  obtain rfl : f = 4 := Option.some.inj ((show Tryz.prog.funcNamed Tryz.f4.name = some 4 by kernel_rfl).symm.trans hf) |>.symm
  obtain rfl : fn = Tryz.f4 := (Option.some.inj (Tryz.func4.symm.trans hfn)).symm
  refine ⟨by kernel_rfl, fun j t ht => ?_⟩
  rw [Tryz.params4] at ht
  have hm : t = 22 ∨ t = 3 := by simpa using Array.mem_of_getElem? ht
  rcases hm with rfl | rfl
  · exact (show Tryz.prog.wantsStandIn 22 = false by kernel_rfl)
  · exact (show Tryz.prog.wantsStandIn 3 = false by kernel_rfl)

theorem meets_card : Rows.MeetsCardSaid :=
  Claim7.holds_tied_plain_at .later [] _ _ _ _ meets_said (fun _ h => by cases h) (by kernel_rfl) (fun _ h => by cases h) meets_row_tie rfl ⟨rfl, rfl⟩ (by kernel_rfl) rfl meets_plain (by kernel_rfl)
#print axioms meets_card
end Go.Proofs.YtalaldfgjgpacabGreatDoor
