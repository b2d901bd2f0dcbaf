import Derived.Test.YtkeanpabacfdlaaGreatDoorQ6
import Derived.Test.YtkeanpabacfdlaaGreatDoorL5
import Derived.Deep.RegionLaw
import Derived.Deep.DeepCutAuto
namespace Go.Proofs.YtkeanpabacfdlaaGreatDoor
set_option linter.unusedVariables false
set_option linter.unusedSimpArgs false
open Go.RowKit
attribute [local go_sem ↓] Go.wp_at_zero Go.wp_at_succ

/-- The deltas that the document's replica remembers: n of them, their cells. -/
def LateAt (w : World) (v : Value) (n : Nat) (xs : List Value) : Prop :=
  xs.length = n * 2 ∧
  ((v = .slice none 0 0 ∧ n = 0) ∨
   ∃ g o cap cur, v = .slice (some ⟨g, o, none⟩) n cap ∧ w.heap[g]? = some (.cells cur 101 (0, 0)) ∧ n ≤ cap ∧ cap ≤ maxLen ∧ o + cap * 2 ≤ cur.size ∧ (cur.toList.drop o).take (n * 2) = xs)

theorem LateAt.nil (w : World) : LateAt w (.slice none 0 0) 0 [] := ⟨rfl, .inl ⟨rfl, rfl⟩⟩

theorem infoP : (Tryz.prog.info? 101).map (fun i => (i.zero, i.size, i.bytes)) = some (some (.agg #[.slice none 0 0, .slice none 0 0]), 2, 48) := by kernel_rfl

theorem LateAt.kept {w w' : World} {v : Value} {n : Nat} {xs : List Value} (h : LateAt w v n xs) (hb : ∀ g, v.ownBlock = some g → w'.heap[g]? = w.heap[g]?) : LateAt w' v n xs := by
  refine ⟨h.1, ?_⟩
  rcases h.2 with hn | ⟨g, o, cap, cur, e, hg, r⟩
  · exact .inl hn
  · exact .inr ⟨g, o, cap, cur, e, (hb g (by rw [e]; rfl)).trans hg, r⟩
theorem LateAt.lt {w : World} {v : Value} {n : Nat} {xs : List Value} (h : LateAt w v n xs) {g : Nat} (hg : v.ownBlock = some g) : g < w.heap.size ∧ ∃ C, w.heap[g]? = some (.cells C 101) := by
  rcases h.2 with ⟨rfl, _⟩ | ⟨g', o, cap, cur, rfl, hh, _⟩
  · cases hg
  · have : g' = g := by simpa [Value.ownBlock] using hg
    subst this; exact ⟨(Array.getElem?_eq_some_iff.1 hh).1, _, hh⟩
theorem LateAt.on {w w' : World} {v : Value} {n : Nat} {xs : List Value} (h : LateAt w v n xs) (hb : Blw w w') : LateAt w' v n xs :=
  h.kept fun g hg => hb.bk g (h.lt hg).1

/-- Behind an append: only the row of v, and new blocks. -/
theorem run_append_late (w : World) (v : Value) (n : Nat) (xs : List Value) (h : LateAt w v n xs) (hn : n ≤ 4) (ty : TypeId) (a : Addr) (x y : Value)
    (hc : ∀ j u, [x, y][j]? = some u → w.cell? (a.add j) = some u) (h1 : ∀ u ∈ [x, y], u.oneCell' = true) :
    ∃ v' w', (Builtin.append_ #[102, 102] ty #[v, .slice (some a) 1 1]).run Tryz.prog w = .ok v' w' ∧ LateAt w' v' (n + 1) (xs ++ [x, y]) ∧ w.grownBy w' v.ownBlock ∧ (v'.ownBlock = v.ownBlock ∨ v'.ownBlock = some w.heap.size) := by
  obtain ⟨i0, hi, hz0, hz1, hz2⟩ := info_parts infoP
  have hlen : (xs ++ [x, y]).length = (n + 1) * 2 := by rw [List.length_append, h.1]; simp; omega
  rcases h.2 with ⟨rfl, rfl⟩ | ⟨g, o, cap, cur, rfl, hg, hnc, hcm, hcs, htake⟩
  · have hx : xs = [] := List.eq_nil_of_length_eq_zero (by simpa using h.1)
    subst hx
    have hr := run_append_nil (P := Tryz.prog) w 102 ty 101 i0 _ Tryz.underlying102 hi hz0 a 1 1 [x, y] (by rw [hz1]; rfl) hc (by omega) (by omega) (by rw [hz2]; omega)
    have hge := grownCap_ge w 1 0 101
    have hcm : grownCap w 1 0 101 ≤ maxLen := grownCap_le_maxLen w 1 0 _ (by unfold maxLen; omega)
    refine ⟨_, _, hr, ⟨hlen, .inr ⟨w.heap.size, 0, _, _, rfl, heap_alloc_new w.drew _, by omega, hcm, ?_, ?_⟩⟩, ⟨rfl, rfl, rfl, by simp, fun k hk _ => World.grownBy_alloc w.drew _ none |>.block k hk (by simp)⟩, .inr rfl⟩
    · simp only [Array.size_append, List.size_toArray, size_zeroCells]
      have : (Value.agg #[Value.slice none 0 0, Value.slice none 0 0]).cells.size = 2 := rfl
      rw [this]; simp; omega
    · simp
  · by_cases hroom : n + 1 ≤ cap
    · have hr := run_append_room_cells (P := Tryz.prog) w 102 ty 101 i0 Tryz.underlying102 hi g o n cap a 1 1 [x, y] (by rw [hz1]; rfl) hc h1 hroom
        (fun j hj => by rw [blk_cell hg, hz1]; simp at hj; simp; omega) (fun j hj => blk_frozen hg _)
      rw [hz1] at hr
      refine ⟨_, _, hr, ⟨hlen, .inr ⟨g, o, cap, _, rfl, heap_setCells_self _ hg, hroom, hcm, by rw [splice_size]; exact hcs, ?_⟩⟩, ?_, .inl rfl⟩
      · refine List.ext_getElem? fun j => ?_
        rw [List.getElem?_take]
        by_cases hj : j < (n + 1) * 2
        · rw [if_pos hj, List.getElem?_drop, Array.getElem?_toList, splice_at _ _ _ _ (by simp; omega)]
          by_cases hj2 : j < n * 2
          · rw [if_neg (by omega), List.getElem?_append_left (by rw [h.1]; exact hj2), ← htake, List.getElem?_take, if_pos hj2, List.getElem?_drop, Array.getElem?_toList]
          · rw [if_pos (by simp; omega), List.getElem?_append_right (by rw [h.1]; omega), h.1]
            have : o + j - (o + n * 2) = j - n * 2 := by omega
            rw [this]
        · rw [if_neg hj, List.getElem?_eq_none (by omega)]
      · refine ⟨World.os_setCells _ _ _ _, ?_, World.output_setCells _ _ _ _, by rw [size_setCells]; exact Nat.le_refl _, fun k hk hne => heap_setCells_ne _ (fun e => hne (by rw [e]; rfl))⟩
        exact (Bx.scs (Bx.rfl g w) _ _).tape
    · have holds : ∀ j u, xs[j]? = some u → w.cell? ((⟨g, o, none⟩ : Addr).add j) = some u := by
        intro j u hu
        have hj : j < n * 2 := by
          have := (List.getElem?_eq_some_iff.1 hu).1; rw [h.1] at this; exact this
        rw [Addr.add_lit, blk_cell hg]
        rw [← htake, List.getElem?_take, if_pos hj, List.getElem?_drop, Array.getElem?_toList] at hu
        exact hu
      have hr := run_append_grow (P := Tryz.prog) w 102 ty 101 i0 _ Tryz.underlying102 hi hz0 ⟨g, o, none⟩ n cap xs (by rw [hz1]; exact h.1) holds a 1 1 [x, y] (by rw [hz1]; rfl) hc (by omega) (by omega) (growslice_fits (by omega) (by rw [hz2]; omega))
      have hge := grownCap_ge w (n + 1) cap 101
      have hcm' : grownCap w (n + 1) cap 101 ≤ maxLen := grownCap_le_maxLen w (n + 1) cap _ (by unfold maxLen; omega)
      refine ⟨_, _, hr, ⟨hlen, .inr ⟨w.heap.size, 0, _, _, rfl, heap_alloc_new w.drew _, hge, hcm', ?_, ?_⟩⟩, ⟨rfl, rfl, rfl, by simp, fun k hk _ => World.grownBy_alloc w.drew _ none |>.block k hk (by simp)⟩, .inr rfl⟩
      · simp only [Array.size_append, List.size_toArray, size_zeroCells]
        have : (Value.agg #[Value.slice none 0 0, Value.slice none 0 0]).cells.size = 2 := rfl
        rw [this, h.1]; simp; omega
      · simp only [Array.toList_append, List.drop_zero]
        rw [← hlen]; simp only [List.append_assoc]; rw [← List.append_assoc]; exact List.take_left

end Go.Proofs.YtkeanpabacfdlaaGreatDoor
