import Derived.Test.YtalaldfgjgpacaaGreatDoorP7
import Derived.Test.YtalaldfgjgpacaaGreatDoorCards
import Derived.Test.YtalaldfgjgpacaaGreatDoorTie
import Derived.ProofKit
import Derived.OpenShut
import Derived.Deep.DeepHandedRow
import Derived.Deep.Slices
import Derived.SizedLaws
import Derived.ShutString
import Derived.Below
namespace Go.Proofs.YtalaldfgjgpacaaGreatDoor
set_option linter.unusedVariables false
set_option linter.unusedSimpArgs false
open Go.ChangeShapes Go.WideShapes Go.ChangeAt Go.RowKit Go.Deep

theorem own : ownKnob Tryz.prog.godebug = none := by kernel_rfl
theorem laidOut : laidOutB Tryz.prog = true := by kernel_rfl
theorem cells31 : Tryz.prog.cellsOf 46 = 7 := by kernel_rfl
theorem bytes31 : Tryz.prog.bytesOf 46 = 64 := by kernel_rfl
theorem cells3 : Tryz.prog.cellsOf 3 = 1 := by kernel_rfl
theorem cells9 : Tryz.prog.cellsOf 9 = 1 := by kernel_rfl
theorem gPow : Tryz.prog.globalNamed "internal/strconv.uint64pow10" = some 0 := by kernel_rfl
theorem gPowType : (Tryz.prog.globals[0]?).map (·.type) = some 172 := by kernel_rfl
theorem cells94 : Tryz.prog.cellsOf 172 = 20 := by kernel_rfl
theorem cells88 : Tryz.prog.cellsOf 166 = 1 := by kernel_rfl

theorem powData : (Rows.laid_internal_strconv_uint64pow10 : DataW Unit) = Lib.tabData .u64 Lib.pow10Tab := by kernel_rfl

/-- What the row's list gives: the table, third on the list. -/
theorem tabOf {W : World} (h : laidMetH Tryz.prog Rows.eventsRow.laid W) : Tab Tryz.prog W := by
  have h' : laidMet Tryz.prog Rows.eventsRow.laid W := h
  obtain ⟨ps, ⟨g1, t1, cs1, f1, p1, q1, _, _, _, _, ⟨g2, t2, cs2, f2, p2, q2, _, _, _, _, hrest, _⟩, _⟩, _⟩ := h'
  obtain ⟨g', t', cs, fuel, p, q, hg', ht', hvar, hd, _, _⟩ := hrest
  obtain rfl := Option.some.inj (gPow.symm.trans hg')
  obtain rfl := Option.some.inj (gPowType.symm.trans ht')
  unfold Tab Lib.TabIs
  rw [powData] at hd
  rw [hvar, ← Lib.cells_of_tab Tryz.underlying172 Tryz.underlying166 cells88 cells94 hd]

theorem weights_mem_all {H : Type} {P : Program} {e : TypeId} : ∀ {l : List (DataW H)} {d : DataW H}, d ∈ l → ∀ n ∈ d.weights P e, n ∈ DataW.weightsAll P e l
  | x :: r, d, hd, n, hn => by
    simp only [DataW.weightsAll, List.mem_append]
    rcases List.mem_cons.1 hd with rfl | h
    · exact .inl hn
    · exact .inr (weights_mem_all h n hn)

theorem wf_bd {z : Int} (h : (Lit.int .i64 z).wf = true) : -9223372036854775808 ≤ z ∧ z ≤ 9223372036854775807 := by
  simp only [Lit.wf, Bool.and_eq_true, decide_eq_true_eq] at h
  have h1 : IntKind.i64.min = -9223372036854775808 := by decide
  have h2 : IntKind.i64.max = 9223372036854775807 := by decide
  omega

section
variable {H : Type} {enc : TypeId × Value → H}

set_option maxRecDepth 100000 in
/-- One step of the script, read. -/
theorem open_opA {W : World} {n : Nat} {a : Addr} {cs : List Value} {x : DataW H × List MemPlace} (hcs : W.cells? 0 a 7 = some cs) (h : DataW.trod enc Tryz.prog W 0 (fun _ => true) true n 46 cs = some x) :
    ∃ o : OpR, (∀ j, j < 7 → W.cell? (a.add j) = o.cells[j]?) ∧ o.s.data.toList.length ∈ x.1.weights Tryz.prog 46 ∧ (-9223372036854775808 ≤ o.r ∧ o.r ≤ 9223372036854775807) := by
  obtain ⟨_, hl, hcell⟩ := World.cells?_some hcs
  obtain ⟨xs, n', _, rfl, _, hlen, hf⟩ := DataW.trod_struct Tryz.underlying46 h
  match cs, hl with
  | [c0, c1, c2, c3, c4, c5, c6], _ =>
    match xs, hlen with
    | [y0, y1, y2, y3, y4, y5, y6], _ =>
      have f0 := hf 0 _ rfl
      have f1 := hf 1 _ rfl
      have f2 := hf 2 _ rfl
      have f3 := hf 3 _ rfl
      have f4 := hf 4 _ rfl
      have f5 := hf 5 _ rfl
      have f6 := hf 6 _ rfl
      simp [cells3] at f0
      simp [cells3] at f1
      simp [cells3] at f2
      simp [cells3] at f3
      simp [cells3] at f4
      simp [cells3] at f5
      simp [cells9] at f6
      obtain ⟨z0, e0, _, _⟩ := DataW.trod_int Tryz.underlying3 f0
      obtain ⟨z1, e1, _, v1⟩ := DataW.trod_int Tryz.underlying3 f1
      obtain ⟨z2, e2, _, _⟩ := DataW.trod_int Tryz.underlying3 f2
      obtain ⟨z3, e3, _, v3⟩ := DataW.trod_int Tryz.underlying3 f3
      obtain ⟨z4, e4, _, v4⟩ := DataW.trod_int Tryz.underlying3 f4
      obtain ⟨z5, e5, _, v5⟩ := DataW.trod_int Tryz.underlying3 f5
      obtain ⟨s, e6, rfl, _⟩ := DataW.trod_string Tryz.underlying9 f6
      simp only [List.cons.injEq, and_true] at e0 e1 e2 e3 e4 e5 e6
      subst e0 e1 e2 e3 e4 e5 e6
      refine ⟨⟨z0, z1, z2, z3, z4, z5, s⟩, hcell, ?_, wf_bd v1⟩
      rw [DataW.weights]
      simp only [Tryz.underlying46]
      exact DataW.weights_mem_each (j := 6) rfl rfl _ (by simp [DataW.weights])

set_option maxRecDepth 100000 in
/-- The script, read: it is empty, or its steps lie in a block. -/
theorem open_scriptA {W : World} {v0 : Value} {d0 : DataW H} {p0 : List MemPlace} {ts : List TypeId} {ds : List (DataW H)} (h0 : DataW.Trod enc Tryz.prog W 0 (fun _ => true) true 22 v0 d0 p0)
    (hsz : (DataW.weightsEach Tryz.prog (22 :: ts) (d0 :: ds)).all (· ≤ reachBytes) = true) (hv : ∃ a len cap, v0 = .slice a len cap) :
    (∃ a cap, v0 = .slice a 0 cap) ∨ ∃ (ops : Nat → OpR) (len cap sb off : Nat), v0 = .slice (some ⟨sb, off, none⟩) len cap ∧ Lies ops len sb off W ∧ sb < W.heap.size ∧ len * 64 ≤ 140737488351232 ∧ (∀ i, i < len → (ops i).s.size ≤ 140737488355328) ∧ ∀ i, i < len → (-9223372036854775808 ≤ (ops i).r ∧ (ops i).r ≤ 9223372036854775807) := by
  obtain ⟨a, len, cap, rfl⟩ := hv
  obtain ⟨fuel, hf⟩ := h0
  rcases open_slice Tryz.underlying22 hf with ⟨hcs, _⟩ | ⟨a', len', cap', m, n, D, Pl, hcs, _, hl, _, hm, hx, hall⟩
  · simp [Value.cells] at hcs
    obtain ⟨rfl, rfl, rfl⟩ := hcs
    exact .inl ⟨none, 0, rfl⟩
  · simp [Value.cells] at hcs
    obtain ⟨rfl, rfl, rfl⟩ := hcs
    simp only [if_true] at hm
    subst hm
    by_cases h0 : len = 0
    · subst h0; exact .inl ⟨_, _, rfl⟩
    · right
      obtain ⟨hx1, _⟩ := Prod.mk.inj hx
      subst hx1
      have hch : ∀ i, ∃ o : OpR, i < len → (∀ j, j < 7 → W.cell? ((a'.add (i * 7)).add j) = o.cells[j]?) ∧ o.s.data.toList.length ∈ (D i).weights Tryz.prog 46 ∧ (-9223372036854775808 ≤ o.r ∧ o.r ≤ 9223372036854775807) := fun i => by
        by_cases hi : i < len
        · obtain ⟨cs', hc1, hc2⟩ := hall i (by omega)
          rw [cells31] at hc1
          obtain ⟨o, ho1, ho2, ho3⟩ := open_opA hc1 hc2
          exact ⟨o, fun _ => ⟨ho1, ho2, ho3⟩⟩
        · exact ⟨⟨0, 0, 0, 0, 0, 0, ByteArray.empty⟩, fun h => absurd h hi⟩
      obtain ⟨ops, hops⟩ : ∃ ops : Nat → OpR, ∀ i, i < len → (∀ j, j < 7 → W.cell? ((a'.add (i * 7)).add j) = (ops i).cells[j]?) ∧ (ops i).s.data.toList.length ∈ (D i).weights Tryz.prog 46 ∧ (-9223372036854775808 ≤ (ops i).r ∧ (ops i).r ≤ 9223372036854775807) :=
        ⟨fun i => Classical.choose (hch i), fun i => Classical.choose_spec (hch i)⟩
      clear hch
      obtain ⟨sb, off, spot⟩ := a'
      have hfirst := (hops 0 (by omega)).1 0 (by omega)
      have hspot : spot = none := by
        have := World.cell?_spot (show W.cell? (((⟨sb, off, spot⟩ : Addr).add (0 * 7)).add 0) = some _ from hfirst)
        simpa [Addr.add] using this
      subst hspot
      have hsl := sized_slice hsz (j := 0) rfl rfl Tryz.underlying22
      rw [bytes31] at hsl
      simp only [List.length_map, List.length_range] at hsl
      refine ⟨ops, len, m, sb, off, rfl, ?_, ?_, ?_, ?_, fun i hi => (hops i hi).2.2⟩
      · intro i hi
        have hc := (hops i hi).1
        generalize ops i = o at *
        have e : ∀ j, ((⟨sb, off, none⟩ : Addr).add (i * 7)).add j = ⟨sb, off + i * 7 + j, none⟩ := fun j => by
          unfold Addr.add
          by_cases h1 : i * 7 = 0 <;> by_cases h2 : j = 0 <;> simp [h1, h2]
        have c0 := hc 0 (by omega)
        have c1 := hc 1 (by omega)
        have c2 := hc 2 (by omega)
        have c3 := hc 3 (by omega)
        have c4 := hc 4 (by omega)
        have c5 := hc 5 (by omega)
        have c6 := hc 6 (by omega)
        rw [e] at c0 c1 c2 c3 c4 c5 c6
        exact ⟨c0, c1, c2, c3, c4, c5, c6⟩
      · have := World.block_lt_of_cell? W _ (show W.cell? (((⟨sb, off, none⟩ : Addr).add (0 * 7)).add 0) = some _ from hfirst)
        simpa [Addr.add] using this
      · unfold reachBytes at hsl; omega
      · intro i hi
        have hw := (hops i hi).2.1
        generalize ops i = o at *
        have hmem : o.s.data.toList.length ∈ DataW.weightsEach Tryz.prog (22 :: ts) (DataW.slice ((List.range len).map D) ((List.range (m - len)).map fun j => D (len + j)) :: ds) := by
          refine DataW.weights_mem_each (j := 0) rfl rfl _ ?_
          rw [DataW.weights]
          simp only [Tryz.underlying22]
          refine List.mem_cons_of_mem _ (List.mem_append_left _ ?_)
          exact weights_mem_all (List.mem_map.2 ⟨i, List.mem_range.2 hi, rfl⟩) _ hw
        have := List.all_eq_true.1 hsz _ hmem
        have h2 : o.s.data.toList.length = o.s.size := Array.length_toList
        simp only [decide_eq_true_eq] at this
        unfold reachBytes at this
        omega
end



theorem small_empty (a : Option Addr) (cap : Nat) (w : World) : Calls Tryz.prog 14 #[.slice a 0 cap] w fun e w' => (e = .returned (.bool true) ∨ e = .returned (.bool false)) ∧ w' = w := by
  go_enter Tryz.func14, Tryz.ntmps14
  go_wp2
  refine wp_loop_once ?_
  go_wp2
  go_ret
  exact ⟨.inl rfl, rfl⟩

set_option maxRecDepth 100000 in
set_option maxHeartbeats 2000000 in
theorem plays_empty (a : Option Addr) (cap : Nat) (lo hi : Int) (looks : Bool) (w : World) :
    Calls Tryz.prog 13 #[.slice a 0 cap, .int .i64 lo, .int .i64 hi, .bool looks] w fun e w' => e = .returned (.bool true) ∧ Blw w w' := by
  have HSM := hid (fun wx => small_empty a cap wx)
  go_enter Tryz.func13, Tryz.ntmps13
  go_wp2_with fail
  refine (HSM.out _).mono ?_
  rintro e w2 ⟨he, hw2⟩
  subst w2
  rcases he with rfl | rfl
  · go_wp2_with fail
    refine wp_loop_once ?_
    go_wp2
    go_ret
    exact ⟨rfl, Blw.rfl _⟩
  · go_wp2
    go_ret
    exact ⟨rfl, Blw.rfl _⟩
end Go.Proofs.YtalaldfgjgpacaaGreatDoor
