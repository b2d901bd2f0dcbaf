import Derived.Test.YtalaldfgjgpacaaGreatDoorO1
import Derived.Test.YtalaldfgjgpacaaGreatDoorUE
import Derived.Test.YtalaldfgjgpacaaGreatDoorTie
import Derived.Test.YtalaldfgjgpacaaGreatDoorCards
import Derived.Test.YtalaldfgjgpacaaGreatDoorChecked
namespace Go.Proofs.YtalaldfgjgpacaaGreatDoor
set_option linter.unusedVariables false
set_option linter.unusedSimpArgs false
open Go.RowKit
attribute [local go_sem ↓] Go.wp_at_zero Go.wp_at_succ

open Go.ChangeShapes Go.WideShapes Go.ChangeAt Go.Deep

set_option maxRecDepth 100000 in
set_option maxHeartbeats 1000000 in
theorem ships_of (v : Value) (w : World) (h : Calls Tryz.prog 13 #[v, .int .i64 12, .int .i64 13, .bool false] w fun e w' => e = .returned (.bool true) ∧ Blw w w') :
    Calls Tryz.prog 8 #[v] w fun e w' => e = .returned (.bool true) ∧ Blw w w' := by
  have H := hid h
  clear h
  go_enter Tryz.func8, Tryz.ntmps8
  go_wp2_with fail
  refine H.out.mono ?_
  rintro e w2 ⟨rfl, b2⟩
  go_wp2
  go_ret
  exact ⟨rfl, b2⟩

/-- Ships, whatever the script. -/
theorem ships_all (v : Value) (w : World) (ht : Tab Tryz.prog w)
    (h : (∃ a cap, v = .slice a 0 cap) ∨ ∃ (ops : Nat → OpR) (len cap sb off : Nat), v = .slice (some ⟨sb, off, none⟩) len cap ∧ Lies ops len sb off w ∧ sb < w.heap.size ∧ len * 64 ≤ 140737488351232 ∧ (∀ i, i < len → (ops i).s.size ≤ 140737488355328) ∧ ∀ i, i < len → (-9223372036854775808 ≤ (ops i).r ∧ (ops i).r ≤ 9223372036854775807)) :
    Calls Tryz.prog 8 #[v] w fun e w' => e = .returned (.bool true) ∧ Below w.heap.size w w' := by
  rcases h with ⟨a, cap, rfl⟩ | ⟨ops, len, cap, sb, off, rfl, hL, hsb, hl, hs, hwf⟩
  · exact ships_of _ w (plays_empty a cap 12 13 false w)
  · exact ships_of _ w (plays_walk ops len cap sb off 12 13 false w does13 hl hs hwf hL hsb ht)

set_option maxRecDepth 100000 in
theorem ships_contract (H : Type) (enc : TypeId × Value → H) (W : World) (base : Nat) (args : Array Value) (ds gs : List (DataW H)) (before : List MemPlace)
    (hval : ∀ (j : Nat) t v, Tryz.f8.params[j]? = some t → args[j]? = some v → Value.okWide Tryz.prog W .any base t v)
    (hW : DataW.Whole enc Tryz.prog Tryz.f8.params.toList Rows.shipsSpec.vars false W args.toList ds gs before)
    (hsz : (DataW.weightsEach Tryz.prog (Tryz.f8.params.toList ++ Rows.shipsSpec.plain.varTypes Tryz.prog) (ds ++ gs)).all (· ≤ reachBytes) = true)
    (hL : laidMetH Tryz.prog Rows.shipsRow.laid W) :
    Calls Tryz.prog 8 args W fun e W' => ∃ v, e = .returned v ∧ Rows.shipsSpec.post enc Tryz.prog Tryz.f8 false true false false W args v W' := by
  have hW' := hW
  obtain ⟨p, q, hA0, hV, rfl, hfz, hnd⟩ := hW
  have hA : DataW.TrodAll enc Tryz.prog W 0 (fun _ => true) true Tryz.f8.params.toList args.toList ds p := hA0
  rw [Tryz.params8] at hA hval
  obtain ⟨v0, vs0, d0, ds0, p0, q0, hargs, rfl, rfl, h0, r0⟩ := trodAll_cons hA
  obtain ⟨rfl, rfl, rfl⟩ := trodAll_nil r0
  obtain rfl : args = #[v0] := by cases args; simp_all
  obtain ⟨rfl, rfl⟩ := trodVars_none hV
  have lt0 : ∀ x ∈ p0, x.block < W.heap.size := by obtain ⟨m, hm⟩ := h0; exact DataW.trod_lt m _ _ _ hm
  have hop := open_scriptA h0 hsz (okWide_slice Tryz.underlying22 (hval 0 22 v0 rfl rfl))
  clear hA0
  refine (ships_all v0 W (tabOf hL) hop).mono fun e W' ⟨he, bel⟩ => ?_
  subst he
  exact ⟨_, rfl, _, _, _, [], _, [], hW', trodAll_mk1 (shut_bool Tryz.underlying4 _), (trodAll_cons_mk (Below.trod laidOut (by kernel_rfl) (of_decide_eq_true (by kernel_rfl)) h0 bel lt0) trodAll_mk0), rfl, bel.frame _, fun h => by cases h⟩
/-- A table's cells. -/
def tabCellsShips : DataW Unit → Array Value
  | .agg ps => (ps.map fun | .lit (.int k n) => Value.int k n | _ => undef).toArray
  | _ => #[]
/-- The three tables laid. -/
def layTabsShips (w : World) : World :=
  { w with heap := ((w.heap.modify 0 fun | .cells _ t frozen => .cells (tabCellsShips Rows.laid_internal_strconv_uint64pow10) t frozen | o => o).modify 1 fun | .cells _ t frozen => .cells (tabCellsShips Rows.laid_math_bits_deBruijn32tab) t frozen | o => o).modify 2 fun | .cells _ t frozen => .cells (tabCellsShips Rows.laid_math_bits_deBruijn64tab) t frozen | o => o }

set_option maxRecDepth 100000 in
theorem ships_lifted (os : Os) (started : os.Started) (H : Type) (enc : TypeId × Value → H) (F : Stop.Interp) :
    ReturnsInHanded {} Tryz.checked os 8 .any ((OpenSpec.ofChange Rows.shipsSpec).preRow enc Tryz.prog Tryz.f8 Rows.shipsRow.domain false Rows.shipsRow.laid) (((OpenSpec.ofChange Rows.shipsSpec).at F).post enc Tryz.prog Tryz.f8 false true false false) := by
  have hl : laidMet Tryz.prog Rows.shipsRow.laid ((layTabsShips (World.holding Tryz.prog os ⟨#[], #[], []⟩)).forCall (fun _ _ => 0) ⟨#[], #[.slice none 0 0], []⟩).memory := laidMet_of_run' 8 (by kernel_rfl) (by kernel_rfl)
  obtain ⟨places, hx⟩ : ∃ places, DataW.whole enc Tryz.prog ((layTabsShips (World.holding Tryz.prog os ⟨#[], #[], []⟩)).forCall (fun _ _ => 0) ⟨#[], #[.slice none 0 0], []⟩).memory Tryz.f8.params.toList Rows.shipsSpec.vars false #[Value.slice none 0 0].toList 8 = some ([.nil], [], places) := ⟨[], by kernel_rfl⟩
  refine returnsInHanded_of_row (C := Tryz.checked) (s := OpenSpec.ofChange Rows.shipsSpec) own started (by kernel_rfl) Tryz.func8
    (witness_row_at (enc := enc) (C := Tryz.checked) false (layTabsShips (World.holding Tryz.prog os ⟨#[], #[], []⟩)) #[.slice none 0 0] rfl (by kernel_rfl) (by kernel_rfl) (by kernel_rfl)
      (OpenSpec.preRow_of_cond 8 hx (by kernel_rfl) (fun k hk => by cases hk) (by kernel_rfl) hl)) ?_
  intro W base args ds gs before hval hW _ _ hsz hL _ _
  exact ships_contract H enc W base args ds gs before hval hW hsz hL

theorem ships_said : Rows.ShipsSaid :=
  OpenClaim.holds_of_cond 8 Tryz.f8 rfl rfl rfl rfl rfl rfl rfl ⟨rfl, rfl, rfl, rfl, rfl⟩ rfl rfl rfl rfl rfl (by kernel_rfl) Tryz.func8 (by kernel_rfl)
    (of_decide_eq_true (by kernel_rfl)) (by unfold Func.isWrapper; first | (rw [if_pos (by decide +kernel)]; kernel_rfl) | (rw [if_neg (by decide +kernel)]; exact ⟨rfl, rfl⟩))
    (fun os started H enc _ F => by rw [OpenClaim.pre_eq_preRow]; exact ships_lifted os started H enc F)

theorem ships_plain (f : FuncId) (fn : Func) (hf : Tryz.pinned.checked.prog.funcNamed Tryz.f8.name = some f) (hfn : Tryz.pinned.checked.prog.funcs[f]? = some fn) :
    false = Tryz.pinned.checked.prog.looks [] ∧ ∀ (j : Nat) t, fn.params[j]? = some t → Tryz.pinned.checked.prog.wantsStandIn t = false := by
  obtain rfl : f = 8 := Option.some.inj ((show Tryz.prog.funcNamed Tryz.f8.name = some 8 by kernel_rfl).symm.trans hf) |>.symm
  obtain rfl : fn = Tryz.f8 := (Option.some.inj (Tryz.func8.symm.trans hfn)).symm
  refine ⟨by kernel_rfl, fun j t ht => ?_⟩
  rw [Tryz.params8] at ht
  have hm : t = 22 := by simpa using Array.mem_of_getElem? ht
  subst hm
  exact (show Tryz.prog.wantsStandIn 22 = false by kernel_rfl)

theorem ships_card : Rows.ShipsCardSaid :=
  Claim7.holds_tied_plain_at .later [] _ _ _ _ ships_said (fun _ h => by cases h) (by kernel_rfl) (fun _ h => by cases h) ships_row_tie rfl ⟨rfl, rfl⟩ (by kernel_rfl) rfl ships_plain (by kernel_rfl)
#print axioms ships_card
end Go.Proofs.YtalaldfgjgpacaaGreatDoor
