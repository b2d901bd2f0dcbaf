import Derived.Test.YtalaldfgjgpacaaGreatDoorLD
import Derived.Test.YtalaldfgjgpacaaGreatDoorQB
import Derived.Test.YtalaldfgjgpacaaGreatDoorRA
import Derived.Deep.RegionLaw
import Derived.Deep.DeepCutAuto
namespace Go.Proofs.YtalaldfgjgpacaaGreatDoor
set_option linter.unusedVariables false
set_option linter.unusedSimpArgs false
open Go.RowKit
attribute [local go_sem ↓] Go.wp_at_zero Go.wp_at_succ

/-- The deltas that the document's replica remembers: n of them, their cells. -/
def LateAt (w : World) (v : Value) (n : Nat) (xs : List Value) : Prop :=
  xs.length = n * 2 ∧
  ((v = .slice none 0 0 ∧ n = 0) ∨
   ∃ g o cap cur, v = .slice (some ⟨g, o, none⟩) n cap ∧ w.heap[g]? = some (.cells cur 120 (0, 0)) ∧ n ≤ cap ∧ cap ≤ maxLen ∧ o + cap * 2 ≤ cur.size ∧ (cur.toList.drop o).take (n * 2) = xs)

theorem LateAt.nil (w : World) : LateAt w (.slice none 0 0) 0 [] := ⟨rfl, .inl ⟨rfl, rfl⟩⟩

theorem infoP : (Tryz.prog.info? 120).map (fun i => (i.zero, i.size, i.bytes)) = some (some (.agg #[.slice none 0 0, .slice none 0 0]), 2, 48) := by kernel_rfl

theorem LateAt.kept {w w' : World} {v : Value} {n : Nat} {xs : List Value} (h : LateAt w v n xs) (hb : ∀ g, v.ownBlock = some g → w'.heap[g]? = w.heap[g]?) : LateAt w' v n xs := by
  refine ⟨h.1, ?_⟩
  rcases h.2 with hn | ⟨g, o, cap, cur, e, hg, r⟩
  · exact .inl hn
  · exact .inr ⟨g, o, cap, cur, e, (hb g (by rw [e]; rfl)).trans hg, r⟩
theorem LateAt.lt {w : World} {v : Value} {n : Nat} {xs : List Value} (h : LateAt w v n xs) {g : Nat} (hg : v.ownBlock = some g) : g < w.heap.size ∧ ∃ C, w.heap[g]? = some (.cells C 120) := by
  rcases h.2 with ⟨rfl, _⟩ | ⟨g', o, cap, cur, rfl, hh, _⟩
  · cases hg
  · have : g' = g := by simpa [Value.ownBlock] using hg
    subst this; exact ⟨(Array.getElem?_eq_some_iff.1 hh).1, _, hh⟩
theorem LateAt.on {w w' : World} {v : Value} {n : Nat} {xs : List Value} (h : LateAt w v n xs) (hb : Blw w w') : LateAt w' v n xs :=
  h.kept fun g hg => hb.bk g (h.lt hg).1

/-- The pieces that are remembered, cell by cell. -/
def Lats (w : World) : List Pc → List Value → Prop
  | [], ls => ls = []
  | p :: L, ls => ∃ a b ls', ls = a :: b :: ls' ∧ (∃ D E, Ls w 0 a D ∧ Ls w 0 b E ∧ RelP p D E ∧ p.fine) ∧ Lats w L ls'

theorem Lats.kept {w w' : World} : ∀ {L : List Pc} {ls : List Value}, Lats w L ls → (∀ (g : Nat) (C : Array Value), w.heap[g]? = some (.cells C 9) → w'.heap[g]? = w.heap[g]?) → Lats w' L ls
  | [], _, h, _ => h
  | _ :: _, _, ⟨a, b, ls', e, ⟨D, E, h1, h2, h3, h4⟩, h5⟩, hs => ⟨a, b, ls', e, ⟨D, E, h1.kept fun g C _ hC => hs g C hC, h2.kept fun g C _ hC => hs g C hC, h3, h4⟩, Lats.kept h5 hs⟩
theorem Lats.on {w w' : World} {L : List Pc} {ls : List Value} (h : Lats w L ls) (hb : Blw w w') : Lats w' L ls := h.kept fun g _ hC => hb.bk g (lt_of_blk hC)
theorem Lats.sc {w : World} {L : List Pc} {ls : List Value} (h : Lats w L ls) {b : Nat} {C : Array Value} {t : TypeId} (hb : w.heap[b]? = some (.cells C t)) (ht : t ≠ 9) (o : Nat) (u : Value) : Lats (w.setCell ⟨b, o, none⟩ u) L ls :=
  h.kept fun g C' hC => Below.heap_setCell w ⟨b, o, none⟩ u g (fun e => by
    simp at e; subst e; rw [hb] at hC; simp only [Option.some.injEq, Obj.cells.injEq] at hC; exact ht hC.2.1)
theorem Lats.snoc {w : World} {a b : Value} {D E : List Bs} {p : Pc} (h1 : Ls w 0 a D) (h2 : Ls w 0 b E) (h3 : RelP p D E) (h4 : p.fine) : ∀ {L : List Pc} {ls : List Value}, Lats w L ls → Lats w (L ++ [p]) (ls ++ [a, b])
  | [], ls, h => by
    have : ls = [] := h
    subst this
    exact ⟨a, b, [], rfl, ⟨D, E, h1, h2, h3, h4⟩, rfl⟩
  | q :: L, ls, ⟨a', b', ls', e, k, h5⟩ => by
    subst e
    exact ⟨a', b', ls' ++ [a, b], rfl, k, Lats.snoc h1 h2 h3 h4 h5⟩
theorem Lats.tl {w : World} : ∀ {L : List Pc} {ls : List Value}, Lats w L ls → Lats w (L.drop 1) (ls.drop 2)
  | [], ls, h => by
    have : ls = [] := h
    subst this
    exact rfl
  | _ :: _, _, ⟨_, _, _, e, _, h5⟩ => by subst e; exact h5
theorem Lats.len {w : World} : ∀ {L : List Pc} {ls : List Value}, Lats w L ls → ls.length = L.length * 2
  | [], ls, h => by
    have : ls = [] := h
    subst this
    rfl
  | _ :: _, _, ⟨_, _, _, e, _, h5⟩ => by subst e; have := Lats.len h5; simp; omega

/-- Behind an append: only the row of v, and new blocks. -/
theorem run_append_late (w : World) (v : Value) (n : Nat) (xs : List Value) (h : LateAt w v n xs) (hn : n ≤ 4) (ty : TypeId) (a : Addr) (x y : Value)
    (hc : ∀ j u, [x, y][j]? = some u → w.cell? (a.add j) = some u) (h1 : ∀ u ∈ [x, y], u.oneCell' = true) :
    ∃ v' w', (Builtin.append_ #[121, 121] ty #[v, .slice (some a) 1 1]).run Tryz.prog w = .ok v' w' ∧ LateAt w' v' (n + 1) (xs ++ [x, y]) ∧ w.grownBy w' v.ownBlock ∧ (v'.ownBlock = v.ownBlock ∨ v'.ownBlock = some w.heap.size) := by
  obtain ⟨i0, hi, hz0, hz1, hz2⟩ := info_parts infoP
  have hlen : (xs ++ [x, y]).length = (n + 1) * 2 := by rw [List.length_append, h.1]; simp; omega
  rcases h.2 with ⟨rfl, rfl⟩ | ⟨g, o, cap, cur, rfl, hg, hnc, hcm, hcs, htake⟩
  · have hx : xs = [] := List.eq_nil_of_length_eq_zero (by simpa using h.1)
    subst hx
    have hr := run_append_nil (P := Tryz.prog) w 121 ty 120 i0 _ Tryz.underlying121 hi hz0 a 1 1 [x, y] (by rw [hz1]; rfl) hc (by omega) (by omega) (by rw [hz2]; omega)
    have hge := grownCap_ge w 1 0 120
    have hcm : grownCap w 1 0 120 ≤ maxLen := grownCap_le_maxLen w 1 0 _ (by unfold maxLen; omega)
    refine ⟨_, _, hr, ⟨hlen, .inr ⟨w.heap.size, 0, _, _, rfl, heap_alloc_new w.drew _, by omega, hcm, ?_, ?_⟩⟩, ⟨rfl, rfl, rfl, by simp, fun k hk _ => World.grownBy_alloc w.drew _ none |>.block k hk (by simp)⟩, .inr rfl⟩
    · simp only [Array.size_append, List.size_toArray, size_zeroCells]
      have : (Value.agg #[Value.slice none 0 0, Value.slice none 0 0]).cells.size = 2 := rfl
      rw [this]; simp; omega
    · simp
  · by_cases hroom : n + 1 ≤ cap
    · have hr := run_append_room_cells (P := Tryz.prog) w 121 ty 120 i0 Tryz.underlying121 hi g o n cap a 1 1 [x, y] (by rw [hz1]; rfl) hc h1 hroom
        (fun j hj => by rw [blk_cell hg, hz1]; simp at hj; simp; omega) (fun j hj => blk_frozen hg _)
      rw [hz1] at hr
      refine ⟨_, _, hr, ⟨hlen, .inr ⟨g, o, cap, _, rfl, heap_setCells_self _ hg, hroom, hcm, by rw [splice_size]; exact hcs, ?_⟩⟩, ?_, .inl rfl⟩
      · refine List.ext_getElem? fun j => ?_
        rw [List.getElem?_take]
        by_cases hj : j < (n + 1) * 2
        · rw [if_pos hj, List.getElem?_drop, Array.getElem?_toList, splice_at _ _ _ _ (by simp; omega)]
          by_cases hj2 : j < n * 2
          · rw [if_neg (by omega), List.getElem?_append_left (by rw [h.1]; exact hj2), ← htake, List.getElem?_take, if_pos hj2, List.getElem?_drop, Array.getElem?_toList]
          · rw [if_pos (by simp; omega), List.getElem?_append_right (by rw [h.1]; omega), h.1]
            have : o + j - (o + n * 2) = j - n * 2 := by omega
            rw [this]
        · rw [if_neg hj, List.getElem?_eq_none (by omega)]
      · refine ⟨World.os_setCells _ _ _ _, ?_, World.output_setCells _ _ _ _, by rw [size_setCells]; exact Nat.le_refl _, fun k hk hne => heap_setCells_ne _ (fun e => hne (by rw [e]; rfl))⟩
        exact (Bx.scs (Bx.rfl g w) _ _).tape
    · have holds : ∀ j u, xs[j]? = some u → w.cell? ((⟨g, o, none⟩ : Addr).add j) = some u := by
        intro j u hu
        have hj : j < n * 2 := by
          have := (List.getElem?_eq_some_iff.1 hu).1; rw [h.1] at this; exact this
        rw [Addr.add_lit, blk_cell hg]
        rw [← htake, List.getElem?_take, if_pos hj, List.getElem?_drop, Array.getElem?_toList] at hu
        exact hu
      have hr := run_append_grow (P := Tryz.prog) w 121 ty 120 i0 _ Tryz.underlying121 hi hz0 ⟨g, o, none⟩ n cap xs (by rw [hz1]; exact h.1) holds a 1 1 [x, y] (by rw [hz1]; rfl) hc (by omega) (by omega) (growslice_fits (by omega) (by rw [hz2]; omega))
      have hge := grownCap_ge w (n + 1) cap 120
      have hcm' : grownCap w (n + 1) cap 120 ≤ maxLen := grownCap_le_maxLen w (n + 1) cap _ (by unfold maxLen; omega)
      refine ⟨_, _, hr, ⟨hlen, .inr ⟨w.heap.size, 0, _, _, rfl, heap_alloc_new w.drew _, hge, hcm', ?_, ?_⟩⟩, ⟨rfl, rfl, rfl, by simp, fun k hk _ => World.grownBy_alloc w.drew _ none |>.block k hk (by simp)⟩, .inr rfl⟩
      · simp only [Array.size_append, List.size_toArray, size_zeroCells]
        have : (Value.agg #[Value.slice none 0 0, Value.slice none 0 0]).cells.size = 2 := rfl
        rw [this, h.1]; simp; omega
      · simp only [Array.toList_append, List.drop_zero]
        rw [← hlen]; simp only [List.append_assoc]; rw [← List.append_assoc]; exact List.take_left

end Go.Proofs.YtalaldfgjgpacaaGreatDoor

namespace Go.Proofs.YtalaldfgjgpacaaGreatDoor
set_option linter.unusedVariables false
set_option linter.unusedSimpArgs false
open Go.RowKit
attribute [local go_sem ↓] Go.wp_at_zero Go.wp_at_succ

/-- append to what is remembered, as one step of a region that draws. -/
theorem step_append_late {ops : Array Oper} {o : Oper} {a : Act} {w : World} {K : Act → World → Prop} {Q : Exit → Act → World → Prop} {E : Prop}
    (hg : o.guard = none) (s x : Operand) (hop : o.op = Op.call { callee := Callee.builtin Builtin.append, args := #[s, x], argTypes := #[121, 121] })
    (v : Value) (n : Nat) (xs : List Value) (hs : a.eval s = v) (h : LateAt w v n xs) (hn : n ≤ 4) (ad : Addr) (y z : Value) (hx : a.eval x = .slice (some ad) 1 1)
    (hc : ∀ j u, [y, z][j]? = some u → w.cell? (ad.add j) = some u) (h1 : ∀ u ∈ [y, z], u.oneCell' = true)
    (hK : ∀ v' w', LateAt w' v' (n + 1) (xs ++ [y, z]) → w.grownBy w' v.ownBlock → (v'.ownBlock = v.ownBlock ∨ v'.ownBlock = some w.heap.size) → K (a.put o.dst v') w') :
    if Region.wanted o (yielded ops a.tmps) = true then Oper.wp Tryz.prog o a w K Q else E := by
  have hw : Region.wanted o (yielded ops a.tmps) = true := by simp [Region.wanted, hg]
  rw [if_pos hw]
  obtain ⟨v', w', hr, k1, k2, k3⟩ := run_append_late w v n xs h hn o.type ad y z hc h1
  unfold Oper.wp
  simp [execOp, hop, resolve, invoke, builtin, hs, hx, hr, Result.andThen]
  exact hK v' w' k1 k2 k3

/-- Everything below but some blocks is as it was. -/
structure Bs2 (S : Nat → Prop) (a w : World) : Prop where
  os : w.os = a.os
  tape : w.tape = a.tape
  output : w.output = a.output
  size : a.heap.size ≤ w.heap.size
  block : ∀ k, k < a.heap.size → ¬ S k → w.heap[k]? = a.heap[k]?

theorem Blw.b2 {a w : World} (h : Blw a w) (S : Nat → Prop) : Bs2 S a w := ⟨h.os, h.tape, h.output, h.size, fun k hk _ => h.block k hk⟩
theorem Bs2.tr {S : Nat → Prop} {u v w : World} (h : Bs2 S u v) (k : Bs2 (fun i => S i ∨ u.heap.size ≤ i) v w) : Bs2 S u w :=
  ⟨k.os.trans h.os, k.tape.trans h.tape, k.output.trans h.output, Nat.le_trans h.size k.size, fun i hi hs => (k.block i (Nat.lt_of_lt_of_le hi h.size) (fun e => e.elim hs (fun e => by omega))).trans (h.block i hi hs)⟩
theorem Bs2.weak {S T : Nat → Prop} {u v : World} (h : Bs2 S u v) (hs : ∀ i, S i → T i) : Bs2 T u v := ⟨h.os, h.tape, h.output, h.size, fun i hi ht => h.block i hi (fun e => ht (hs i e))⟩
theorem Bs2.rfl (S : Nat → Prop) (u : World) : Bs2 S u u := ⟨_root_.rfl, _root_.rfl, _root_.rfl, Nat.le_refl _, fun _ _ _ => _root_.rfl⟩
theorem Bs2.sc {S : Nat → Prop} {a w : World} (h : Bs2 S a w) (b o : Nat) (v : Value) (hb : S b ∨ a.heap.size ≤ b) : Bs2 S a (w.setCell ⟨b, o, none⟩ v) :=
  ⟨h.os, h.tape, h.output, by simpa using h.size, fun k hk hs => (Below.heap_setCell w ⟨b, o, none⟩ v k (fun e => by simp at e; subst e; exact hb.elim hs (fun e => by omega))).trans (h.block k hk hs)⟩
theorem grown_b2 {w w' : World} {r : Option Nat} (h : w.grownBy w' r) : Bs2 (fun k => r = some k) w w' := ⟨h.os, h.tape, h.output, h.size, fun k hk hs => h.block k hk (fun e => hs e.symm)⟩

theorem ref_put2 {w : World} {cb me n : Nat} {a b : Value} {had : Nat} {lt ac : Value} {dk : Bs} {t : TypeId} (h : w.heap[cb]? = some (.cells (refArr me n a b had lt ac dk) t)) (u v : Value) : ((w.setCell ⟨cb, 2, none⟩ u).setCell ⟨cb, 3, none⟩ v).heap[cb]? = some (.cells (refArr me n u v had lt ac dk) t) := by
  rw [heap_setCell_self (heap_setCell_self h u) v]; rfl
theorem ref_put_had {w : World} {cb me n : Nat} {a b : Value} {had : Nat} {lt ac : Value} {dk : Bs} {t : TypeId} (h : w.heap[cb]? = some (.cells (refArr me n a b had lt ac dk) t)) (k : Nat) : (w.setCell ⟨cb, 4, none⟩ (.int .i64 k)).heap[cb]? = some (.cells (refArr me n a b k lt ac dk) t) := by
  rw [heap_setCell_self h]; rfl
theorem ref_put_late {w : World} {cb me n : Nat} {a b : Value} {had : Nat} {lt ac : Value} {dk : Bs} {t : TypeId} (h : w.heap[cb]? = some (.cells (refArr me n a b had lt ac dk) t)) (v : Value) : (w.setCell ⟨cb, 5, none⟩ v).heap[cb]? = some (.cells (refArr me n a b had v ac dk) t) := by
  rw [heap_setCell_self h]; rfl
theorem ref_put_disk {w : World} {cb me n : Nat} {a b : Value} {had : Nat} {lt ac : Value} {dk : Bs} {t : TypeId} (h : w.heap[cb]? = some (.cells (refArr me n a b had lt ac dk) t)) (l : Bs) : (w.setCell ⟨cb, 7, none⟩ (.string ⟨l.toArray⟩)).heap[cb]? = some (.cells (refArr me n a b had lt ac l) t) := by
  rw [heap_setCell_self h]; rfl
theorem ref_put_ne {w : World} {b cb o o' : Nat} {ob : Option Obj} {u v : Value} (h : w.heap[b]? = ob) (hne : b ≠ cb) : ((w.setCell ⟨cb, o, none⟩ u).setCell ⟨cb, o', none⟩ v).heap[b]? = ob := by
  rw [Below.heap_setCell _ ⟨cb, o', none⟩ v b hne, Below.heap_setCell _ ⟨cb, o, none⟩ u b hne]; exact h

theorem late_ne {w : World} {v : Value} {n : Nat} {xs : List Value} (h : LateAt w v n xs) {b : Nat} {C : Array Value} {t : TypeId} (hb : w.heap[b]? = some (.cells C t)) (ht : t ≠ 120) : v.ownBlock ≠ some b := by
  intro e
  obtain ⟨_, C', hC⟩ := h.lt e
  rw [hC] at hb
  simp only [Option.some.injEq, Obj.cells.injEq] at hb
  exact ht hb.2.1.symm
theorem LateAt.sc {w : World} {v : Value} {n : Nat} {xs : List Value} (h : LateAt w v n xs) {b : Nat} {C : Array Value} {t : TypeId} (hb : w.heap[b]? = some (.cells C t)) (ht : t ≠ 120) (o : Nat) (u : Value) : LateAt (w.setCell ⟨b, o, none⟩ u) v n xs :=
  h.kept fun g hg => Below.heap_setCell w ⟨b, o, none⟩ u g (fun e => late_ne h hb ht (by rw [hg, e]))
theorem LateAt.b2 {w w' : World} {v : Value} {n : Nat} {xs : List Value} (h : LateAt w v n xs) {b : Nat} {C : Array Value} {t : TypeId} (hb : w.heap[b]? = some (.cells C t)) (ht : t ≠ 120) (k : Bs2 (fun k => k = b) w w') : LateAt w' v n xs :=
  h.kept fun g hg => k.block g (h.lt hg).1 (fun e => late_ne h hb ht (by rw [hg, e]))
theorem Ls.grown {w w' : World} {a : Nat} {v : Value} {L : List Bs} {r : Option Nat} (h : Ls w a v L) (hg : Bs2 (fun k => r = some k) w w') (hr : ∀ k, r = some k → ∃ C, w.heap[k]? = some (.cells C 120)) : Ls w' a v L := by
  refine h.kept fun g C _ hC => hg.block g (lt_of_blk hC) fun e => ?_
  obtain ⟨C', hC'⟩ := hr g e
  rw [hC] at hC'
  simp only [Option.some.injEq, Obj.cells.injEq] at hC'
  exact absurd hC'.2.1 (by decide)
theorem two_cell_at (w : World) (x y : Value) (t : TypeId) : ∀ j u, [x, y][j]? = some u → (w.alloc (.cells #[x, y] t)).cell? ((⟨w.heap.size, 0, none⟩ : Addr).add j) = some u := by
  intro j u hj
  match j, hj with
  | 0, hj => simp at hj; subst hj; simp [Addr.add]
  | 1, hj => simp at hj; subst hj; simp [Addr.add]

/-- The document's replica behind a call. -/
structure RefTo (cb me n had ln : Nat) (lt ac : Value) (dk : Bs) (X Y : List Bs) (M : List Pc) (w w' : World) : Prop where
  at_ : ∃ u v lt' ls', w'.heap[cb]? = some (.cells (refArr me n u v had lt' ac dk) 123) ∧ Ls w' 0 u X ∧ Ls w' 0 v Y ∧ (LateAt w' lt' ln ls' ∧ Lats w' M ls') ∧ (lt'.ownBlock = lt.ownBlock ∨ ∃ g, lt'.ownBlock = some g ∧ w.heap.size ≤ g)
  bs : Bs2 (fun k => k = cb ∨ lt.ownBlock = some k) w w'

set_option maxRecDepth 100000 in
set_option maxHeartbeats 4000000 in
theorem rlearn_any (cb me n : Nat) (a b a' b' : Value) (had ln : Nat) (lt ac : Value) (dk : Bs) (D E D' E' : List Bs) (ls : List Value) (w : World) (h : w.heap[cb]? = some (.cells (refArr me n a b had lt ac dk) 123))
    (hP : PcAt w a b D E) (hP' : PcAt w a' b' D' E') (hL : LateAt w lt ln ls) (hln : ln ≤ 4) (hh : had ≤ 1000000000) (hd : dk.length ≤ 1000000000000) (hw : (writeL D' E').length < 998)
    (L : List Pc) (q : Pc) (hLat : Lats w L ls) (hRq : RelP q D' E') (hqf : q.fine) (M : List Pc) (e6 : M = if ln = 4 then (L ++ [q]).drop 1 else L ++ [q]) (had' ln' : Nat) (dk' : Bs) (X' Y' : List Bs) (e1 : had' = had + 1) (e2 : ln' = if ln = 4 then 4 else ln + 1) (e3 : dk' = dk ++ frameL ([68] ++ writeL D' E')) (e4 : X' = joinD D D') (e5 : Y' = joinE D E D' E') :
    Calls Tryz.prog 115 #[.pointer (some ⟨cb, 0, none⟩), .agg #[a', b']] w fun e w' => e = .returned (.tuple #[]) ∧ RefTo cb me n had' ln' lt ac dk' X' Y' M w w' := by
  have E1 := hid e1
  have E2 := hid e2
  have E3 := hid e3
  have E4 := hid e4
  have E5 := hid e5
  have E6 := hid e6
  have HLat := hid hLat
  have HRQ := hid (And.intro hRq hqf)
  clear e1 e2 e3 e4 e5 e6 hLat hRq hqf
  have hbl := lt_of_blk h
  have H := hid h
  obtain ⟨ao, ca, rfl, oa⟩ := hP.d.op
  obtain ⟨bo, cb', rfl, ob⟩ := hP.e.op
  obtain ⟨ao', ca', rfl, oa'⟩ := hP'.d.op
  obtain ⟨bo', cb2, rfl, ob'⟩ := hP'.e.op
  have H1 := hid (hp_old (.cells #[.slice ao' D'.length ca', .slice bo' E'.length cb2] 120) hbl h)
  have H2 := hid (hp_new w (.cells #[.slice ao' D'.length ca', .slice bo' E'.length cb2] 120))
  obtain ⟨c0, c1, c2, c3, c4, c5, c6, c7⟩ := ref_n H1.out
  have d0 : (w.alloc (.cells #[.slice ao' D'.length ca', .slice bo' E'.length cb2] 120)).cell? ⟨w.heap.size, 0, none⟩ = some (.slice ao' D'.length ca') := blk_cell H2.out 0
  have d1 : (w.alloc (.cells #[.slice ao' D'.length ca', .slice bo' E'.length cb2] 120)).cell? ⟨w.heap.size, 1, none⟩ = some (.slice bo' E'.length cb2) := blk_cell H2.out 1
  have HJ := hid (fun wx hx hx' => rjoin_any (.slice ao D.length ca) (.slice bo E.length cb') (.slice ao' D'.length ca') (.slice bo' E'.length cb2) D E D' E' wx hx hx')
  have HP := hid hP
  have HP' := hid hP'
  have HL := hid hL
  have hne : cb ≠ w.heap.size := by omega
  clear oa ob oa' ob' h hP hP' hL
  go_enter Tryz.func115, Tryz.ntmps115
  go_wp2
  go_cut [3] (fun s w' => s = .pointer (some ⟨w.heap.size, 0, none⟩) ∧ w'.heap[w.heap.size]? = some (.cells #[.slice ao' D'.length ca', .slice bo' E'.length cb2] 120) ∧ ∃ u v, w'.heap[cb]? = some (.cells (refArr me n u v had lt ac dk) 123) ∧ Ls w' 0 u (joinD D D') ∧ Ls w' 0 v (joinE D E D' E') ∧ Bs2 (fun k => k = cb) w w')
  case first =>
    go_region_with (first | (go_at_call 111; refine (HJ.out _ (HP.out.on (Blw.dr ((Blw.rfl _).al _))) (HP'.out.on (Blw.dr ((Blw.rfl _).al _)))).mono ?_; rintro e w1 ⟨u, v, rfl, j1, j2, b1⟩; obtain ⟨uo, uc, rfl, _⟩ := j1.op; obtain ⟨vo, vc, rfl, _⟩ := j2.op; have K1 := hid (b1.bq (show (w.alloc _).drew.heap[cb]? = _ from H1.out)); have K2 := hid (b1.bq (show (w.alloc _).drew.heap[w.heap.size]? = _ from H2.out)); have J1 := hid j1; have J2 := hid j2; have e2 : w1.cell? ⟨cb, 2, none⟩ = some _ := blk_cell K1.out 2; have e3 : w1.cell? ⟨cb, 3, none⟩ = some _ := blk_cell K1.out 3; have f2 := blk_frozen K1.out 2; have f3 := blk_frozen K1.out 3))
    all_goals
      go_wp2_with fail
      go_meet
      case rel => exact ⟨rfl, ref_put_ne K2.out hne.symm, _, _, ref_put2 K1.out _ _, (J1.out.sc K1.out (by decide) _).sc (heap_setCell_self K1.out _) (by decide) _, (J2.out.sc K1.out (by decide) _).sc (heap_setCell_self K1.out _) (by decide) _, ((((((Blw.rfl w).al _).dr).tr b1).b2 (fun k => k = cb)).sc cb _ _ (.inl rfl)).sc cb _ _ (.inl rfl)⟩
  case rest =>
    obtain ⟨rfl, g1, u, v, g2, g3, g4, g5⟩ := hcut
    have e4 := (ref_n g2).2.2.2.2.1
    have f4 := blk_frozen g2 4
    have HE : Hid ((((had + 1 : Nat)) : Int) = (had : Int) + 1) := by show (((had + 1 : Nat)) : Int) = _; omega
    have k1 := hid (ref_put_had g2 (had + 1))
    have k2 := hid ((Below.heap_setCell wc ⟨cb, 4, none⟩ (.int .i64 ((had + 1 : Nat) : Int)) w.heap.size hne.symm).trans g1)
    have k3 := hid (g3.sc (o := 4) g2 (by decide) (.int .i64 ((had + 1 : Nat) : Int)))
    have k4 := hid (g4.sc (o := 4) g2 (by decide) (.int .i64 ((had + 1 : Nat) : Int)))
    have k5 := hid ((HL.out.b2 H.out (by decide) g5).sc g2 (by decide) 4 (.int .i64 ((had + 1 : Nat) : Int)))
    have k6 := hid (g5.sc cb 4 (.int .i64 ((had + 1 : Nat) : Int)) (.inl rfl))
    rw [HE.out] at k1 k2 k3 k4 k5 k6
    clear g1 g2 g3 g4 g5 c0 c1 c2 c3 c4 c5 c6 c7 d0 d1
    go_wp2
    generalize wc.setCell ⟨cb, 4, none⟩ (.int .i64 ((had : Int) + 1)) = w3 at *
    clear e4 f4
    have q5 := (ref_n k1.out).2.2.2.2.2.1
    have b0 : w3.cell? ⟨w.heap.size, 0, none⟩ = some (.slice ao' D'.length ca') := blk_cell k2.out 0
    have b1 : w3.cell? ⟨w.heap.size, 1, none⟩ = some (.slice bo' E'.length cb2) := blk_cell k2.out 1
    have q5' : (w3.alloc (.cells #[.slice ao' D'.length ca', .slice bo' E'.length cb2] 120)).cell? ⟨cb, 5, none⟩ = some lt := (cell_al _ (lt_of_blk k1.out)).trans q5
    go_cut [4] (fun s w' => LateAt w' s (ln + 1) (ls ++ [.slice ao' D'.length ca', .slice bo' E'.length cb2]) ∧ Bs2 (fun k => lt.ownBlock = some k) w3 w' ∧ (s.ownBlock = lt.ownBlock ∨ ∃ g, s.ownBlock = some g ∧ w3.heap.size ≤ g))
    case first =>
      go_region_law (refine step_append_late rfl (.tmp 27) (.tmp 29) rfl lt ln ls (by rfl) (k5.out.on (by first | exact Blw.dr (Blw.al (Blw.rfl _) _) | exact Blw.al (Blw.dr (Blw.rfl _)) _)) hln ⟨w3.heap.size, 0, none⟩ (.slice ao' D'.length ca') (.slice bo' E'.length cb2) (by rfl) (fun j u hj => two_cell_at w3 _ _ _ j u hj) (by intro u hu; simp at hu; rcases hu with rfl | rfl <;> rfl) ?_; intro v' w4 l1 l2 l3)
      all_goals
        go_wp2_with fail
        go_meet
        case rel => exact ⟨l1, Bs2.tr (Blw.b2 (by first | exact Blw.dr (Blw.al (Blw.rfl _) _) | exact Blw.al (Blw.dr (Blw.rfl _)) _) _) ((grown_b2 l2).weak (fun i hi => .inl hi)), l3.imp id (fun e => ⟨_, e, by simp⟩)⟩
    case rest =>
      obtain ⟨l1, l2, l3⟩ := hcut
      have L5 := hid k5.out
      obtain ⟨w4, hw4⟩ : ∃ w4, w4 = wc := ⟨_, rfl⟩
      rw [← hw4] at l1 l2
      have S0 : Hid (Bs2 (fun k => k = cb ∨ lt.ownBlock = some k) w w4) := (k6.out.weak (fun i hi => .inl hi)).tr (l2.weak (fun i hi => .inl (.inr hi)))
      have m1 := hid ((l2.block cb (lt_of_blk k1.out) (late_ne k5.out k1.out (by decide))).trans k1.out)
      have hnl : lt.ownBlock ≠ some w.heap.size := fun e => by have := (HL.out.lt e).1; omega
      have m2 := hid ((l2.block w.heap.size (lt_of_blk k2.out) hnl).trans k2.out)
      have m3 := hid (k3.out.grown l2 (fun k hk => (k5.out.lt hk).2))
      have m4 := hid (k4.out.grown l2 (fun k hk => (k5.out.lt hk).2))
      have L1 := hid l1
      have L3 := hid l3
      have hsz3 := S0.out.size
      subst hw4
      have q5 := (ref_n m1.out).2.2.2.2.2.1
      have fz5 := blk_frozen m1.out 5
      have B0 : ∀ v, (w4.setCell ⟨cb, 5, none⟩ v).cell? ⟨w.heap.size, 0, none⟩ = some (.slice ao' D'.length ca') := fun v => blk_cell ((Below.heap_setCell w4 ⟨cb, 5, none⟩ v w.heap.size hne.symm).trans m2.out) 0
      have B1 : ∀ v, (w4.setCell ⟨cb, 5, none⟩ v).cell? ⟨w.heap.size, 1, none⟩ = some (.slice bo' E'.length cb2) := fun v => blk_cell ((Below.heap_setCell w4 ⟨cb, 5, none⟩ v w.heap.size hne.symm).trans m2.out) 1
      have HWr := hid (fun wx hx => write_any (.slice ao' D'.length ca') (.slice bo' E'.length cb2) D' E' wx hx)
      have HDi := hid (fun wx => digits_any (1 + (writeL D' E').length) 3 wx (by omega) (by omega))
      have HFr : Hid (frameL ([68] ++ writeL D' E') = lastD (1 + (writeL D' E').length) 3 ++ [68] ++ writeL D' E') := by
        show frameL _ = _
        unfold frameL
        have e1 : ([68] ++ writeL D' E').length = 1 + (writeL D' E').length := by rw [List.length_append]; rfl
        rw [e1, List.append_assoc]
      have hl3 := lastD_len (1 + (writeL D' E').length) 3
      generalize writeL D' E' = wt at *
      generalize lastD (1 + wt.length) 3 = hd3 at *
      have HCat := hid (show ByteArray.mk dk.toArray ++ ByteArray.mk hd3.toArray ++ ByteArray.mk #[68] ++ ByteArray.mk wt.toArray = ByteArray.mk (dk ++ (hd3 ++ [68] ++ wt)).toArray by
        rw [show ByteArray.mk #[68] = ByteArray.mk [68].toArray from rfl]
        simp only [ByteArray.mk_append_mk, List.append_assoc])
      have fin : ∀ (lt5 : Value) (ls5 : List Value) (w6 w7 : World), Blw (w4.setCell ⟨cb, 5, none⟩ lt5) w7 → LateAt w4 lt5 (if ln = 4 then 4 else ln + 1) ls5 → Lats w4 M ls5 → (lt5.ownBlock = lt.ownBlock ∨ ∃ g, lt5.ownBlock = some g ∧ w.heap.size ≤ g) →
          RefTo cb me n had' ln' lt ac dk' X' Y' M w (w7.setCell ⟨cb, 7, none⟩ (.string ⟨(dk ++ (hd3 ++ [68] ++ wt)).toArray⟩)) := by
        intro lt5 ls5 w6 w7 hb hl hm ho
        have n1 := ref_put_late m1.out lt5
        have n7 := hb.bq n1
        rw [E1.out, E2.out, E3.out, E4.out, E5.out]
        refine ⟨⟨u, v, lt5, ls5, ?_, ?_, ?_, ?_, ho⟩, ?_⟩
        · rw [HFr.out]; exact ref_put_disk n7 _
        · exact ((m3.out.sc m1.out (by decide) _).on hb).sc n7 (by decide) _
        · exact ((m4.out.sc m1.out (by decide) _).on hb).sc n7 (by decide) _
        · exact ⟨((hl.sc m1.out (by decide) 5 lt5).on hb).sc n7 (by decide) 7 _, ((hm.sc m1.out (by decide) 5 lt5).on hb).sc n7 (by decide) 7 _⟩
        · exact ((S0.out.sc cb 5 lt5 (.inl (.inl rfl))).tr (hb.b2 _)).sc cb 7 _ (.inl (.inl rfl))
      have FIN := hid fin
      have hkp : ∀ (g : Nat) (C : Array Value), w.heap[g]? = some (.cells C 9) → w4.heap[g]? = w.heap[g]? := by
        intro g C hC
        refine S0.out.block g (lt_of_blk hC) ?_
        rintro (rfl | e)
        · rw [H.out] at hC; simp only [Option.some.injEq, Obj.cells.injEq] at hC; exact absurd hC.2.1 (by decide)
        · exact late_ne HL.out hC (by decide) e
      have MM : Hid (Lats w4 (L ++ [q]) (ls ++ [.slice ao' D'.length ca', .slice bo' E'.length cb2])) := Lats.snoc (HP'.out.d.kept fun g C _ hC => hkp g C hC) (HP'.out.e.kept fun g C _ hC => hkp g C hC) HRQ.out.1 HRQ.out.2 (HLat.out.kept hkp)
      clear hkp
      have PC : ∀ (lt5 : Value), PcAt (w4.setCell ⟨cb, 5, none⟩ lt5) (.slice ao' D'.length ca') (.slice bo' E'.length cb2) D' E' := by
        intro lt5
        have B := S0.out.sc cb 5 lt5 (.inl (.inl rfl))
        have hk : ∀ (g : Nat) (C : Array Value), w.heap[g]? = some (.cells C 9) → (w4.setCell ⟨cb, 5, none⟩ lt5).heap[g]? = w.heap[g]? := by
          intro g C hC
          refine B.block g (lt_of_blk hC) ?_
          rintro (rfl | e)
          · rw [H.out] at hC; simp only [Option.some.injEq, Obj.cells.injEq] at hC; exact absurd hC.2.1 (by decide)
          · exact late_ne HL.out hC (by decide) e
        exact ⟨HP'.out.d.kept fun g C _ hC => hk g C hC, HP'.out.e.kept fun g C _ hC => hk g C hC, HP'.out.dl, HP'.out.el, HP'.out.e7, HP'.out.d2⟩
      have PCH := hid PC
      clear l1 l2 l3 fin PC b0 b1 q5'
      rcases L1.out.2 with ⟨_, h0⟩ | ⟨g, o, cap, cur, hs, hg, hnc, hcm, hcs, htk⟩
      · omega
      · subst hs
        have L1' := hid L1.out
        by_cases h4 : ln = 4
        · subst h4
          have hcap : 5 ≤ cap := hnc
          have LL : Hid (LateAt w4 (.slice (some ⟨g, o + 2, none⟩) 4 (cap - 1)) (if 4 = 4 then 4 else 4 + 1) ((cur.toList.drop (o + 2)).take (4 * 2))) := by
            refine ⟨?_, .inr ⟨g, o + 2, cap - 1, cur, rfl, hg, by simp; omega, by omega, by omega, rfl⟩⟩
            simp; omega
          have MN : Hid (Lats w4 M ((cur.toList.drop (o + 2)).take (4 * 2))) := by
            show Lats _ _ _
            have e1 := E6.out
            rw [if_pos rfl] at e1
            rw [e1, show (cur.toList.drop (o + 2)).take (4 * 2) = (ls ++ [Value.slice ao' D'.length ca', Value.slice bo' E'.length cb2]).drop 2 by rw [← htk, List.drop_take, List.drop_drop]]
            exact MM.out.tl
          have OO : Hid ((Value.slice (some ⟨g, o + 2, none⟩) 4 (cap - 1)).ownBlock = lt.ownBlock ∨ ∃ g', (Value.slice (some ⟨g, o + 2, none⟩) 4 (cap - 1)).ownBlock = some g' ∧ w.heap.size ≤ g') := L3.out.imp id (fun ⟨g', e, h⟩ => ⟨g', e, Nat.le_trans k6.out.size h⟩)
          clear hnc hcs htk hg
          go_wp2_with fail
          refine (HWr.out _ (PCH.out _)).mono ?_
          rintro e w5 ⟨rfl, b5⟩
          have n5 := hid (b5.bq (ref_put_late m1.out _))
          go_wp2_with fail
          refine (HDi.out _).mono ?_
          rintro e w6 ⟨rfl, b6⟩
          have n6 := hid (b6.bq n5.out)
          have q7 := (ref_n n6.out).2.2.2.2.2.2.2
          have fz7 := blk_frozen n6.out 7
          go_wp2
          go_end0
          rw [HCat.out]
          exact ⟨rfl, FIN.out _ _ w5 w6 (b5.tr b6) LL.out MN.out OO.out⟩
        · have h4' : decide ((4 : Int) < ((ln + 1 : Nat) : Int)) = false := by simp; omega
          have LL : Hid (LateAt w4 (.slice (some ⟨g, o, none⟩) (ln + 1) cap) (if ln = 4 then 4 else ln + 1) (ls ++ [.slice ao' D'.length ca', .slice bo' E'.length cb2])) := by
            show LateAt _ _ _ _
            rw [if_neg h4]; exact L1.out
          have MN : Hid (Lats w4 M (ls ++ [.slice ao' D'.length ca', .slice bo' E'.length cb2])) := by
            show Lats _ _ _
            rw [E6.out, if_neg h4]; exact MM.out
          have OO : Hid ((Value.slice (some ⟨g, o, none⟩) (ln + 1) cap).ownBlock = lt.ownBlock ∨ ∃ g', (Value.slice (some ⟨g, o, none⟩) (ln + 1) cap).ownBlock = some g' ∧ w.heap.size ≤ g') := L3.out.imp id (fun ⟨g', e, h⟩ => ⟨g', e, Nat.le_trans k6.out.size h⟩)
          clear hnc hcs htk hg
          go_wp2_with fail
          refine (HWr.out _ (PCH.out _)).mono ?_
          rintro e w5 ⟨rfl, b5⟩
          have n5 := hid (b5.bq (ref_put_late m1.out _))
          go_wp2_with fail
          refine (HDi.out _).mono ?_
          rintro e w6 ⟨rfl, b6⟩
          have n6 := hid (b6.bq n5.out)
          have q7 := (ref_n n6.out).2.2.2.2.2.2.2
          have fz7 := blk_frozen n6.out 7
          go_wp2
          go_end0
          rw [HCat.out]
          exact ⟨rfl, FIN.out _ _ w5 w6 (b5.tr b6) LL.out MN.out OO.out⟩
end Go.Proofs.YtalaldfgjgpacaaGreatDoor
