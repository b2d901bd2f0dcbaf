import Derived.Test.YtalaldfgjgpacaaDoorAS
import Derived.Test.YtalaldfgjgpacaaDoorXD
namespace Go.Proofs.YtalaldfgjgpacaaDoor
set_option linter.unusedVariables false
set_option linter.unusedSimpArgs false
open Go.ChangeShapes Go.WideShapes Go.ChangeAt Go.RowKit Go.Deep

section
variable {H : Type} {enc : TypeId × Value → H}

set_option maxRecDepth 100000 in
/-- One step of the script, read. -/
theorem open_opA {W : World} {n : Nat} {a : Addr} {cs : List Value} {x : DataW H × List MemPlace} (hcs : W.cells? 0 a 7 = some cs) (h : DataW.trod enc Tryd.prog W 0 (fun _ => true) true n 31 cs = some x) :
    ∃ o : OpR, (∀ j, j < 7 → W.cell? (a.add j) = o.cells[j]?) ∧ o.s.data.toList.length ∈ x.1.weights Tryd.prog 31 ∧ ((-9223372036854775808 ≤ o.a ∧ o.a ≤ 9223372036854775807) ∧ (-9223372036854775808 ≤ o.b ∧ o.b ≤ 9223372036854775807) ∧ (-9223372036854775808 ≤ o.c ∧ o.c ≤ 9223372036854775807)) := by
  obtain ⟨_, hl, hcell⟩ := World.cells?_some hcs
  obtain ⟨xs, n', _, rfl, _, hlen, hf⟩ := DataW.trod_struct Tryd.underlying31 h
  match cs, hl with
  | [c0, c1, c2, c3, c4, c5, c6], _ =>
    match xs, hlen with
    | [y0, y1, y2, y3, y4, y5, y6], _ =>
      have f0 := hf 0 _ rfl
      have f1 := hf 1 _ rfl
      have f2 := hf 2 _ rfl
      have f3 := hf 3 _ rfl
      have f4 := hf 4 _ rfl
      have f5 := hf 5 _ rfl
      have f6 := hf 6 _ rfl
      simp [cells3] at f0
      simp [cells3] at f1
      simp [cells3] at f2
      simp [cells3] at f3
      simp [cells3] at f4
      simp [cells3] at f5
      simp [cells9] at f6
      obtain ⟨z0, e0, _, _⟩ := DataW.trod_int Tryd.underlying3 f0
      obtain ⟨z1, e1, _, _⟩ := DataW.trod_int Tryd.underlying3 f1
      obtain ⟨z2, e2, _, _⟩ := DataW.trod_int Tryd.underlying3 f2
      obtain ⟨z3, e3, _, v3⟩ := DataW.trod_int Tryd.underlying3 f3
      obtain ⟨z4, e4, _, v4⟩ := DataW.trod_int Tryd.underlying3 f4
      obtain ⟨z5, e5, _, v5⟩ := DataW.trod_int Tryd.underlying3 f5
      obtain ⟨s, e6, rfl, _⟩ := DataW.trod_string Tryd.underlying9 f6
      simp only [List.cons.injEq, and_true] at e0 e1 e2 e3 e4 e5 e6
      subst e0 e1 e2 e3 e4 e5 e6
      refine ⟨⟨z0, z1, z2, z3, z4, z5, s⟩, hcell, ?_, wf_bd v3, wf_bd v4, wf_bd v5⟩
      rw [DataW.weights]
      simp only [Tryd.underlying31]
      exact DataW.weights_mem_each (j := 6) rfl rfl _ (by simp [DataW.weights])

set_option maxRecDepth 100000 in
/-- The script, read: it is empty, or its steps lie in a block. -/
theorem open_scriptA {W : World} {v0 : Value} {d0 : DataW H} {p0 : List MemPlace} {ts : List TypeId} {ds : List (DataW H)} (h0 : DataW.Trod enc Tryd.prog W 0 (fun _ => true) true 22 v0 d0 p0)
    (hsz : (DataW.weightsEach Tryd.prog (22 :: ts) (d0 :: ds)).all (· ≤ reachBytes) = true) (hv : ∃ a len cap, v0 = .slice a len cap) :
    (∃ a cap, v0 = .slice a 0 cap) ∨ ∃ (ops : Nat → OpR) (len cap sb off : Nat), v0 = .slice (some ⟨sb, off, none⟩) len cap ∧ Lies ops len sb off W ∧ sb < W.heap.size ∧ len * 64 ≤ 140737488351232 ∧ (∀ i, i < len → (ops i).s.size ≤ 140737488355328) ∧ ∀ i, i < len → ((-9223372036854775808 ≤ (ops i).a ∧ (ops i).a ≤ 9223372036854775807) ∧ (-9223372036854775808 ≤ (ops i).b ∧ (ops i).b ≤ 9223372036854775807) ∧ (-9223372036854775808 ≤ (ops i).c ∧ (ops i).c ≤ 9223372036854775807)) := by
  obtain ⟨a, len, cap, rfl⟩ := hv
  obtain ⟨fuel, hf⟩ := h0
  rcases open_slice Tryd.underlying22 hf with ⟨hcs, _⟩ | ⟨a', len', cap', m, n, D, Pl, hcs, _, hl, _, hm, hx, hall⟩
  · simp [Value.cells] at hcs
    obtain ⟨rfl, rfl, rfl⟩ := hcs
    exact .inl ⟨none, 0, rfl⟩
  · simp [Value.cells] at hcs
    obtain ⟨rfl, rfl, rfl⟩ := hcs
    simp only [if_true] at hm
    subst hm
    by_cases h0 : len = 0
    · subst h0; exact .inl ⟨_, _, rfl⟩
    · right
      obtain ⟨hx1, _⟩ := Prod.mk.inj hx
      subst hx1
      have hch : ∀ i, ∃ o : OpR, i < len → (∀ j, j < 7 → W.cell? ((a'.add (i * 7)).add j) = o.cells[j]?) ∧ o.s.data.toList.length ∈ (D i).weights Tryd.prog 31 ∧ ((-9223372036854775808 ≤ o.a ∧ o.a ≤ 9223372036854775807) ∧ (-9223372036854775808 ≤ o.b ∧ o.b ≤ 9223372036854775807) ∧ (-9223372036854775808 ≤ o.c ∧ o.c ≤ 9223372036854775807)) := fun i => by
        by_cases hi : i < len
        · obtain ⟨cs', hc1, hc2⟩ := hall i (by omega)
          rw [cells31] at hc1
          obtain ⟨o, ho1, ho2, ho3⟩ := open_opA hc1 hc2
          exact ⟨o, fun _ => ⟨ho1, ho2, ho3⟩⟩
        · exact ⟨⟨0, 0, 0, 0, 0, 0, ByteArray.empty⟩, fun h => absurd h hi⟩
      obtain ⟨ops, hops⟩ : ∃ ops : Nat → OpR, ∀ i, i < len → (∀ j, j < 7 → W.cell? ((a'.add (i * 7)).add j) = (ops i).cells[j]?) ∧ (ops i).s.data.toList.length ∈ (D i).weights Tryd.prog 31 ∧ ((-9223372036854775808 ≤ (ops i).a ∧ (ops i).a ≤ 9223372036854775807) ∧ (-9223372036854775808 ≤ (ops i).b ∧ (ops i).b ≤ 9223372036854775807) ∧ (-9223372036854775808 ≤ (ops i).c ∧ (ops i).c ≤ 9223372036854775807)) :=
        ⟨fun i => Classical.choose (hch i), fun i => Classical.choose_spec (hch i)⟩
      clear hch
      obtain ⟨sb, off, spot⟩ := a'
      have hfirst := (hops 0 (by omega)).1 0 (by omega)
      have hspot : spot = none := by
        have := World.cell?_spot (show W.cell? (((⟨sb, off, spot⟩ : Addr).add (0 * 7)).add 0) = some _ from hfirst)
        simpa [Addr.add] using this
      subst hspot
      have hsl := sized_slice hsz (j := 0) rfl rfl Tryd.underlying22
      rw [bytes31] at hsl
      simp only [List.length_map, List.length_range] at hsl
      refine ⟨ops, len, m, sb, off, rfl, ?_, ?_, ?_, ?_, fun i hi => (hops i hi).2.2⟩
      · intro i hi
        have hc := (hops i hi).1
        generalize ops i = o at *
        have e : ∀ j, ((⟨sb, off, none⟩ : Addr).add (i * 7)).add j = ⟨sb, off + i * 7 + j, none⟩ := fun j => by
          unfold Addr.add
          by_cases h1 : i * 7 = 0 <;> by_cases h2 : j = 0 <;> simp [h1, h2]
        have c0 := hc 0 (by omega)
        have c1 := hc 1 (by omega)
        have c2 := hc 2 (by omega)
        have c3 := hc 3 (by omega)
        have c4 := hc 4 (by omega)
        have c5 := hc 5 (by omega)
        have c6 := hc 6 (by omega)
        rw [e] at c0 c1 c2 c3 c4 c5 c6
        exact ⟨c0, c1, c2, c3, c4, c5, c6⟩
      · have := World.block_lt_of_cell? W _ (show W.cell? (((⟨sb, off, none⟩ : Addr).add (0 * 7)).add 0) = some _ from hfirst)
        simpa [Addr.add] using this
      · unfold reachBytes at hsl; omega
      · intro i hi
        have hw := (hops i hi).2.1
        generalize ops i = o at *
        have hmem : o.s.data.toList.length ∈ DataW.weightsEach Tryd.prog (22 :: ts) (DataW.slice ((List.range len).map D) ((List.range (m - len)).map fun j => D (len + j)) :: ds) := by
          refine DataW.weights_mem_each (j := 0) rfl rfl _ ?_
          rw [DataW.weights]
          simp only [Tryd.underlying22]
          refine List.mem_cons_of_mem _ (List.mem_append_left _ ?_)
          exact weights_mem_all (List.mem_map.2 ⟨i, List.mem_range.2 hi, rfl⟩) _ hw
        have := List.all_eq_true.1 hsz _ hmem
        have h2 : o.s.data.toList.length = o.s.size := Array.length_toList
        simp only [decide_eq_true_eq] at this
        unfold reachBytes at this
        omega
end


set_option maxRecDepth 100000 in
set_option maxHeartbeats 2000000 in
theorem alone_empty (a : Option Addr) (cap : Nat) (w : World) :
    Calls Tryd.prog 3 #[.slice a 0 cap] w fun e w' => e = .returned (.bool true) ∧ Blw w w' := by
  have HSM := hid (fun wx => small_empty a cap wx)
  have HNW := hid (fun wx => new_yes 0 1 wx (by decide) (by decide))
  have hm1 := mk28
  have hm2 := mk29
  go_enter Tryd.func3, Tryd.ntmps3
  go_wp2_with fail
  refine (HSM.out _).mono ?_
  rintro e w2 ⟨he, hw2⟩
  subst w2
  rcases he with rfl | rfl
  · go_wp2_with fail
    refine (HNW.out _).mono ?_
    rintro e w3 ⟨rfl, hw3⟩
    subst w3
    go_wp2_with fail
    refine wp_loop_once ?_
    go_wp2
    go_ret
    exact ⟨rfl, (((Blw.rfl w).al _).al _).al _⟩
  · go_wp2
    go_ret
    exact ⟨rfl, Blw.rfl _⟩

/-- Alone, whatever the script. -/
theorem alone_all (v : Value) (w : World) (ht : Tab Tryd.prog w)
    (h : (∃ a cap, v = .slice a 0 cap) ∨ ∃ (ops : Nat → OpR) (len cap sb off : Nat), v = .slice (some ⟨sb, off, none⟩) len cap ∧ Lies ops len sb off w ∧ sb < w.heap.size ∧ len * 64 ≤ 140737488351232 ∧ (∀ i, i < len → (ops i).s.size ≤ 140737488355328) ∧ ∀ i, i < len → ((-9223372036854775808 ≤ (ops i).a ∧ (ops i).a ≤ 9223372036854775807) ∧ (-9223372036854775808 ≤ (ops i).b ∧ (ops i).b ≤ 9223372036854775807) ∧ (-9223372036854775808 ≤ (ops i).c ∧ (ops i).c ≤ 9223372036854775807))) :
    Calls Tryd.prog 3 #[v] w fun e w' => e = .returned (.bool true) ∧ Below w.heap.size w w' := by
  rcases h with ⟨a, cap, rfl⟩ | ⟨ops, len, cap, sb, off, rfl, hL, hsb, hl, hs, hwf⟩
  · exact alone_empty a cap w
  · exact alone_walk ops len cap sb off w hl hs hL hsb ht hwf

set_option maxRecDepth 100000 in
theorem alone_contract (H : Type) (enc : TypeId × Value → H) (W : World) (base : Nat) (args : Array Value) (ds gs : List (DataW H)) (before : List MemPlace)
    (hval : ∀ (j : Nat) t v, Tryd.f3.params[j]? = some t → args[j]? = some v → Value.okWide Tryd.prog W .any base t v)
    (hW : DataW.Whole enc Tryd.prog Tryd.f3.params.toList Rows.aloneSpec.vars false W args.toList ds gs before)
    (hsz : (DataW.weightsEach Tryd.prog (Tryd.f3.params.toList ++ Rows.aloneSpec.plain.varTypes Tryd.prog) (ds ++ gs)).all (· ≤ reachBytes) = true)
    (hL : laidMetH Tryd.prog Rows.aloneRow.laid W) :
    Calls Tryd.prog 3 args W fun e W' => ∃ v, e = .returned v ∧ Rows.aloneSpec.post enc Tryd.prog Tryd.f3 false true false false W args v W' := by
  have hW' := hW
  obtain ⟨p, q, hA0, hV, rfl, hfz, hnd⟩ := hW
  have hA : DataW.TrodAll enc Tryd.prog W 0 (fun _ => true) true Tryd.f3.params.toList args.toList ds p := hA0
  rw [Tryd.params3] at hA hval
  obtain ⟨v0, vs0, d0, ds0, p0, q0, hargs, rfl, rfl, h0, r0⟩ := trodAll_cons hA
  obtain ⟨rfl, rfl, rfl⟩ := trodAll_nil r0
  obtain rfl : args = #[v0] := by cases args; simp_all
  obtain ⟨rfl, rfl⟩ := trodVars_none hV
  have lt0 : ∀ x ∈ p0, x.block < W.heap.size := by obtain ⟨m, hm⟩ := h0; exact DataW.trod_lt m _ _ _ hm
  have hop := open_scriptA h0 hsz (okWide_slice Tryd.underlying22 (hval 0 22 v0 rfl rfl))
  clear hA0
  refine (alone_all v0 W (tabOf hL) hop).mono fun e W' ⟨he, bel⟩ => ?_
  subst he
  exact ⟨_, rfl, _, _, _, [], _, [], hW', trodAll_mk1 (shut_bool Tryd.underlying4 _), (trodAll_cons_mk (Below.trod laidOut (by kernel_rfl) (of_decide_eq_true (by kernel_rfl)) h0 bel lt0) trodAll_mk0), rfl, bel.frame _, fun h => by cases h⟩
end Go.Proofs.YtalaldfgjgpacaaDoor
