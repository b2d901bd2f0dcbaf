import Derived.Test.YtkeanpabacfdlaaGreatDoorProg
import Derived.Test.YtkeanpabacfdlaaGreatDoorR
import Derived.KernelRfl
namespace Go.Proofs.YtkeanpabacfdlaaGreatDoor
set_option linter.unusedVariables false
set_option linter.unusedSimpArgs false
open Go.RowKit
variable {xt : Ext}

theorem size63 : (Tryz.prog.info? 97).map (·.size) = some 135 := by kernel_rfl

/-- The parts of an address, of a row. -/
def blkOf : Value → Nat
  | .pointer (some a) => a.block
  | _ => 0
def offOf : Value → Nat
  | .pointer (some a) => a.off
  | _ => 0
def isPt : Value → Bool
  | .pointer (some ⟨_, _, none⟩) => true
  | _ => false
def listOf : Value → List Value
  | .agg cs => cs.toList
  | _ => []
theorem blkOf_mk (b o : Nat) (s : Option Nat) : blkOf (.pointer (some ⟨b, o, s⟩)) = b := rfl
theorem offOf_mk (b o : Nat) (s : Option Nat) : offOf (.pointer (some ⟨b, o, s⟩)) = o := rfl
theorem isPt_mk (b o : Nat) : isPt (.pointer (some ⟨b, o, none⟩)) = true := rfl

/-- A piece's cells lie there. -/
def Has (w : World) (b o : Nat) : Prop := ∀ j, j < 135 → (w.cell? ⟨b, o + j, none⟩).isSome = true
def rowOf (w : World) (b o : Nat) : Array Value := ((List.range 135).map fun j => (w.cell? ⟨b, o + j, none⟩).getD undef).toArray
def HasW (w : World) (b o : Nat) : Prop := w.there b o 135
def isRow (v : Value) : Prop := (listOf v).length = 135 ∧ (∃ cs, v = .agg cs) ∧ ∀ x ∈ listOf v, x.oneCell' = true
def putRowAt (w : World) (b o : Nat) (v : Value) : World := w.setCells b o (listOf v)

theorem isPt_form {v : Value} (h : isPt v = true) : v = .pointer (some ⟨blkOf v, offOf v, none⟩) := by
  unfold isPt at h
  split at h
  · rfl
  · cases h

theorem run_load63 (ρ : Operand → Value) (d : Option Tmp) (x : Operand) (ty : TypeId) (pos : String) (after : Array Edge) (g : Option (Nat × Bool)) (w : World)
    (h1 : isPt (ρ x) = true) (h2 : Has w (blkOf (ρ x)) (offOf (ρ x))) :
    (execOp ρ ⟨d, .load 97 x, ty, pos, after, g⟩).run Tryz.prog w = .ok (.value (.agg (rowOf w (blkOf (ρ x)) (offOf (ρ x))))) w := by
  have hx := isPt_form h1
  generalize blkOf (ρ x) = b at *
  generalize offOf (ρ x) = o at *
  unfold execOp
  simp only [hx]
  have := run_loadAt_mid (P := Tryz.prog) w b o 97 ((List.range 135).map fun j => (w.cell? ⟨b, o + j, none⟩).getD undef) _ (by
    intro j v hv
    have hj : j < 135 := by
      have := (List.getElem?_eq_some_iff.1 hv).1; simpa using this
    have hs := h2 j hj
    obtain ⟨u, hu⟩ := Option.isSome_iff_exists.1 hs
    simp [hj, hu] at hv
    rw [hu, hv]) Tryz.underlying97 rfl (by rw [size63]; simp)
  simp only [Sem.run_bind, this, Result.andThen_ok, Sem.run_pure]
  rfl

theorem run_store63 (ρ : Operand → Value) (d : Option Tmp) (x y : Operand) (ty : TypeId) (pos : String) (after : Array Edge) (g : Option (Nat × Bool)) (w : World)
    (h1 : isPt (ρ x) = true) (h2 : HasW w (blkOf (ρ x)) (offOf (ρ x))) (h3 : isRow (ρ y)) :
    (execOp ρ ⟨d, .store 97 x y, ty, pos, after, g⟩).run Tryz.prog w = .ok .skip (putRowAt w (blkOf (ρ x)) (offOf (ρ x)) (ρ y)) := by
  have hx := isPt_form h1
  generalize blkOf (ρ x) = b at *
  generalize offOf (ρ x) = o at *
  obtain ⟨hl, ⟨cs, hcs⟩, hone⟩ := h3
  unfold execOp
  simp only [hx]
  rw [hcs] at hl hone ⊢
  have hsz : cs.size = 135 := by simpa [listOf] using hl
  have := run_storeAt_mid (P := Tryz.prog) w b o 97 cs (by rw [hsz]; exact h2) (by rw [size63, hsz]) (Array.all_eq_true_iff_forall_mem.2 (fun v hv => hone v (by simpa [listOf] using hv)))
  simp only [Sem.run_bind, this, Result.andThen_ok, Sem.run_pure]
  rfl

theorem Has_of {w : World} {b o : Nat} {C : Array Value} {t : TypeId} (h : w.heap[b]? = some (.cells C t)) (hs : o + 135 ≤ C.size) : Has w b o := fun j hj => by
  rw [blk_cell h]; simp; omega
theorem HasW_of {w : World} {b o : Nat} {C : Array Value} {t : TypeId} (h : w.heap[b]? = some (.cells C t)) (hs : o + 135 ≤ C.size) : HasW w b o := fun j hj => by
  refine ⟨?_, blk_frozen h _⟩
  rw [blk_cell h]; simp; omega
theorem rowOf_pc {w : World} {b : Nat} {p : Pc} {t : TypeId} (h : w.heap[b]? = some (.cells p.arr t)) : rowOf w b 0 = p.arr := by
  have : ((List.range 135).map fun j => (w.cell? ⟨b, 0 + j, none⟩).getD undef) = p.cells := by
    unfold Pc.cells
    refine List.map_congr_left fun j hj => ?_
    have hj' : j < 135 := by simpa using hj
    rw [blk_cell h, Nat.zero_add, Pc.at p j hj']; rfl
  unfold rowOf Pc.arr; rw [this]
theorem rowOf_rep {w : World} {b me n : Nat} {p : Pc} {t : TypeId} (h : w.heap[b]? = some (.cells (repArr me n p xt) t)) : rowOf w b 2 = p.arr := by
  have : ((List.range 135).map fun j => (w.cell? ⟨b, 2 + j, none⟩).getD undef) = p.cells := by
    unfold Pc.cells
    refine List.map_congr_left fun j hj => ?_
    have hj' : j < 135 := by simpa using hj
    have hr := rep_range h j _ (List.getElem?_eq_getElem (by rw [Pc.len]; exact hj'))
    rw [hr]
    simp [Pc.cells]
  unfold rowOf Pc.arr; rw [this]
theorem Has_rep {w : World} {b me n : Nat} {p : Pc} {t : TypeId} (h : w.heap[b]? = some (.cells (repArr me n p xt) t)) : Has w b 2 := Has_of h (by rw [repArr_size]; decide)
theorem HasW_rep {w : World} {b me n : Nat} {p : Pc} {t : TypeId} (h : w.heap[b]? = some (.cells (repArr me n p xt) t)) : HasW w b 2 := HasW_of h (by rw [repArr_size]; decide)
theorem Has_pc {w : World} {b : Nat} {p : Pc} {t : TypeId} (h : w.heap[b]? = some (.cells p.arr t)) : Has w b 0 := Has_of h (by rw [Pc.size]; decide)
theorem HasW_pc {w : World} {b : Nat} {p : Pc} {t : TypeId} (h : w.heap[b]? = some (.cells p.arr t)) : HasW w b 0 := HasW_of h (by rw [Pc.size]; decide)
theorem isRow_pc (p : Pc) : isRow (.agg p.arr) := ⟨by simp [listOf, Pc.arr, Pc.len], ⟨_, rfl⟩, fun x hx => Pc.one p x (by simpa [listOf, Pc.arr] using hx)⟩

theorem put_rep {w : World} {b me n : Nat} {p q : Pc} {t : TypeId} (h : w.heap[b]? = some (.cells (repArr me n p xt) t)) : (putRowAt w b 2 (.agg q.arr)).heap[b]? = some (.cells (repArr me n q xt) t) := by
  show (w.setCells b 2 (q.arr.toList)).heap[b]? = _
  rw [show q.arr.toList = q.cells from by simp [Pc.arr], heap_setCells_self _ h, rep_splice]
theorem put_pc {w : World} {b : Nat} {C : Array Value} {q : Pc} {t : TypeId} (h : w.heap[b]? = some (.cells C t)) (hC : C.size = 135) : (putRowAt w b 0 (.agg q.arr)).heap[b]? = some (.cells q.arr t) := by
  show (w.setCells b 0 (q.arr.toList)).heap[b]? = _
  rw [show q.arr.toList = q.cells from by simp [Pc.arr], heap_setCells_self _ h, splice_all _ _ (by rw [Pc.len]; omega)]; rfl
theorem put_ne {w : World} {b b' o : Nat} {v : Value} (h : b' ≠ b) : (putRowAt w b o v).heap[b']? = w.heap[b']? := heap_setCells_ne _ h
theorem put_size {w : World} {b o : Nat} {v : Value} : (putRowAt w b o v).heap.size = w.heap.size := size_setCells _
theorem put_bx {b : Nat} {a w : World} (h : Bx b a w) (o : Nat) (v : Value) : Bx b a (putRowAt w b o v) := h.scs _ _
theorem put_blw {b : Nat} {a w : World} (h : Blw a w) (o : Nat) (v : Value) (hb : a.heap.size ≤ b) : Blw a (putRowAt w b o v) := h.scs _ _ _ hb

theorem Has_drew (w : World) (b o : Nat) : Has w.drew b o = Has w b o := rfl
theorem HasW_drew (w : World) (b o : Nat) : HasW w.drew b o = HasW w b o := rfl
theorem rowOf_drew (w : World) (b o : Nat) : rowOf w.drew b o = rowOf w b o := rfl

theorem cell_al {w : World} {b o : Nat} (ob : Obj) (h : b < w.heap.size) : (w.alloc ob).cell? ⟨b, o, none⟩ = w.cell? ⟨b, o, none⟩ := World.cell?_of_block (w := w) (Below.heap_alloc w ob b h)
theorem Has_alloc (w : World) (ob : Obj) (b o : Nat) (h : b < w.heap.size) : Has (w.alloc ob) b o = Has w b o := by
  unfold Has; simp only [cell_al ob h]
theorem rowOf_alloc (w : World) (ob : Obj) (b o : Nat) (h : b < w.heap.size) : rowOf (w.alloc ob) b o = rowOf w b o := by
  unfold rowOf; simp only [cell_al ob h]
theorem cell_put (w : World) (b' o' b o : Nat) (v : Value) (h : b ≠ b') : (putRowAt w b' o' v).cell? ⟨b, o, none⟩ = w.cell? ⟨b, o, none⟩ := cell_setCells_ne _ _ h
theorem Has_put (w : World) (b' o' b o : Nat) (v : Value) (h : b ≠ b') : Has (putRowAt w b' o' v) b o = Has w b o := by
  unfold Has; simp only [cell_put w b' o' b _ v h]
theorem rowOf_put (w : World) (b' o' b o : Nat) (v : Value) (h : b ≠ b') : rowOf (putRowAt w b' o' v) b o = rowOf w b o := by
  unfold rowOf; simp only [cell_put w b' o' b _ v h]
theorem zero63 : Tryz.zeroCells97 = Pc.empty.arr := by kernel_rfl
theorem zsize63 : Tryz.zeroCells97.size = 135 := by rw [zero63, Pc.size]
theorem HasW_new (w : World) : HasW (w.alloc (.cells Tryz.zeroCells97 97)) w.heap.size 0 = True := by
  have : HasW (w.alloc (.cells Tryz.zeroCells97 97)) w.heap.size 0 := HasW_of (hp_new _ _) (by rw [zsize63]; decide)
  simp [this]
theorem put_new {w : World} {q : Pc} : (putRowAt (w.alloc (.cells Tryz.zeroCells97 97)) w.heap.size 0 (.agg q.arr)).heap[w.heap.size]? = some (.cells q.arr 97) := put_pc (hp_new _ _) zsize63
theorem lt_ne' {a b : Nat} (h : a < b) : a ≠ b := Nat.ne_of_lt h
end Go.Proofs.YtkeanpabacfdlaaGreatDoor
