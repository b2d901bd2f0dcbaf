import Derived.Test.YticfcjicndjejaaDoorML
import Derived.Deep.Upon
import Derived.Lib.LaidTab
import Derived.Lib.ItoaNum
import Derived.Test.YticfcjicndjejaaDoorProg
import Derived.KernelRfl
namespace Go.Proofs.YticfcjicndjejaaDoor
set_option linter.unusedVariables false
set_option linter.unusedSimpArgs false
open Go.RowKit

/-- What a replica has beside what it holds. -/
structure Ext where
  had : Nat
  log : List UInt8
def Ext.cells (x : Ext) : List Value := [.int .i64 x.had, .string ⟨x.log.toArray⟩]

/-- A replica's row. -/
def repCells (me n : Nat) (p : Pc) (x : Ext) : List Value := ([.int .i64 me, .int .i64 n] ++ p.cells) ++ x.cells
def repArr (me n : Nat) (p : Pc) (x : Ext) : Array Value := (repCells me n p x).toArray

variable {xt : Ext}

theorem repArr_size (me n : Nat) (p : Pc) : (repArr me n p xt).size = 139 := by simp [repArr, repCells, Pc.len, Ext.cells]

theorem rep_me {w : World} {b me n : Nat} {p : Pc} {t : TypeId} (h : w.heap[b]? = some (.cells (repArr me n p xt) t)) : w.cell? ⟨b, 0, none⟩ = some (.int .i64 me) := by
  rw [blk_cell h]; rfl
theorem rep_n {w : World} {b me n : Nat} {p : Pc} {t : TypeId} (h : w.heap[b]? = some (.cells (repArr me n p xt) t)) : w.cell? ⟨b, 1, none⟩ = some (.int .i64 n) := by
  rw [blk_cell h]; rfl
theorem rep_at_ext (me n : Nat) (p : Pc) (k : Nat) : (repArr me n p xt)[137 + k]? = xt.cells[k]? := by
  simp only [repArr, repCells, List.getElem?_toArray]
  rw [List.getElem?_append_right (by simp [Pc.len])]
  have : 137 + k - ([Value.int .i64 (me : Int), Value.int .i64 (n : Int)] ++ p.cells).length = k := by simp [Pc.len]
  rw [this]
theorem rep_at_lo (me n : Nat) (p : Pc) (j : Nat) (h : j < 137) : (repArr me n p xt)[j]? = ([Value.int .i64 (me : Int), Value.int .i64 (n : Int)] ++ p.cells)[j]? := by
  simp only [repArr, repCells, List.getElem?_toArray]
  exact List.getElem?_append_left (by simp [Pc.len]; omega)
theorem rep_had {w : World} {b me n : Nat} {p : Pc} {t : TypeId} (h : w.heap[b]? = some (.cells (repArr me n p xt) t)) : w.cell? ⟨b, 137, none⟩ = some (.int .i64 xt.had) := by
  rw [blk_cell h]; exact rep_at_ext me n p 0
theorem rep_log {w : World} {b me n : Nat} {p : Pc} {t : TypeId} (h : w.heap[b]? = some (.cells (repArr me n p xt) t)) : w.cell? ⟨b, 138, none⟩ = some (.string ⟨xt.log.toArray⟩) := by
  rw [blk_cell h]; exact rep_at_ext me n p 1
theorem rep_range {w : World} {b me n : Nat} {p : Pc} {t : TypeId} (h : w.heap[b]? = some (.cells (repArr me n p xt) t)) : w.rangeAt b 2 p.cells := by
  intro j v hv
  rw [blk_cell h]
  have hj : j < 135 := by
    have := (List.getElem?_eq_some_iff.1 hv).1; rw [Pc.len] at this; exact this
  simp only [repArr, repCells, List.getElem?_toArray]
  rw [List.getElem?_append_left (by simp [Pc.len]; omega), List.getElem?_append_right (by simp)]
  simpa using hv
theorem rep_there {w : World} {b me n : Nat} {p : Pc} {t : TypeId} (h : w.heap[b]? = some (.cells (repArr me n p xt) t)) : w.there b 2 135 := by
  intro j hj
  refine ⟨?_, blk_frozen h _⟩
  rw [blk_cell h]
  have := repArr_size (xt := xt) me n p
  simp; omega
theorem pc_range {w : World} {b : Nat} {p : Pc} {t : TypeId} (h : w.heap[b]? = some (.cells p.arr t)) : w.rangeAt b 0 p.cells := by
  intro j v hv
  rw [blk_cell h]
  simpa [Pc.arr] using hv
theorem pc_there {w : World} {b : Nat} {C : Array Value} {t : TypeId} (h : w.heap[b]? = some (.cells C t)) (hC : C.size = 135) : w.there b 0 135 := by
  intro j hj
  refine ⟨?_, blk_frozen h _⟩
  rw [blk_cell h]
  simp; omega

theorem rep_splice (me n : Nat) (p q : Pc) : splice (repArr me n p xt) 2 q.cells = repArr me n q xt := by
  refine Array.ext_getElem? fun j => ?_
  rw [splice_at _ _ _ _ (by rw [repArr_size, Pc.len]; decide), Pc.len]
  by_cases h : 2 ≤ j ∧ j < 2 + 135
  · rw [if_pos h]
    simp only [repArr, repCells, List.getElem?_toArray]
    rw [List.getElem?_append_left (by simp [Pc.len]; omega), List.getElem?_append_right (by simp; omega)]
    simp
  · rw [if_neg h]
    by_cases h2 : j < 2
    · rw [rep_at_lo _ _ _ _ (by omega), rep_at_lo _ _ _ _ (by omega), List.getElem?_append_left (by simpa using h2), List.getElem?_append_left (by simpa using h2)]
    · by_cases h3 : j < 139
      · obtain ⟨k, rfl⟩ : ∃ k, j = 137 + k := ⟨j - 137, by omega⟩
        rw [rep_at_ext, rep_at_ext]
      · rw [Array.getElem?_eq_none (by rw [repArr_size]; omega), Array.getElem?_eq_none (by rw [repArr_size]; omega)]

/-- What a store beside what is held leaves. -/
theorem rep_set (me n : Nat) (p : Pc) (y : Ext) (k : Nat) (v : Value) (hk : k < 2) (hy : y.cells = xt.cells.set k v) : (repArr me n p xt).setIfInBounds (137 + k) v = repArr me n p y := by
  refine Array.ext_getElem? fun j => ?_
  rw [Array.getElem?_setIfInBounds]
  by_cases h : 137 + k = j
  · subst h
    rw [if_pos rfl, if_pos (by rw [repArr_size]; omega), rep_at_ext, hy, List.getElem?_set_self (by simp [Ext.cells]; omega)]
  · rw [if_neg h]
    by_cases h2 : j < 137
    · rw [rep_at_lo _ _ _ _ (by omega), rep_at_lo _ _ _ _ (by omega)]
    · by_cases h3 : j < 139
      · obtain ⟨m, rfl⟩ : ∃ m, j = 137 + m := ⟨j - 137, by omega⟩
        rw [rep_at_ext, rep_at_ext, hy, List.getElem?_set_ne (by omega)]
      · rw [Array.getElem?_eq_none (by rw [repArr_size]; omega), Array.getElem?_eq_none (by rw [repArr_size]; omega)]

/-- Everything below but block b is as it was. -/
structure Bx (b : Nat) (a w : World) : Prop where
  os : w.os = a.os
  tape : w.tape = a.tape
  output : w.output = a.output
  size : a.heap.size ≤ w.heap.size
  block : ∀ k, k < a.heap.size → k ≠ b → w.heap[k]? = a.heap[k]?

theorem Blw.bx {a w : World} (h : Blw a w) (b : Nat) : Bx b a w := ⟨h.os, h.tape, h.output, h.size, fun k hk _ => h.block k hk⟩
theorem Bx.rfl (b : Nat) (a : World) : Bx b a a := ⟨_root_.rfl, _root_.rfl, _root_.rfl, Nat.le_refl _, fun _ _ _ => _root_.rfl⟩
theorem Bx.tr {b : Nat} {u v w : World} (h : Bx b u v) (k : Bx b v w) : Bx b u w :=
  ⟨k.os.trans h.os, k.tape.trans h.tape, k.output.trans h.output, Nat.le_trans h.size k.size, fun i hi hb => (k.block i (Nat.lt_of_lt_of_le hi h.size) hb).trans (h.block i hi hb)⟩
theorem Bx.scs {b : Nat} {a w : World} (h : Bx b a w) (o : Nat) (vs : List Value) : Bx b a (w.setCells b o vs) := by
  refine ⟨?_, ?_, ?_, ?_, ?_⟩
  · rw [World.os_setCells]; exact h.os
  · have : ∀ (vs : List Value) (o : Nat) (w : World), (w.setCells b o vs).tape = w.tape := by
      intro vs; induction vs with
      | nil => intro o w; rfl
      | cons v r ih => intro o w; exact (ih _ _).trans _root_.rfl
    rw [this]; exact h.tape
  · rw [World.output_setCells]; exact h.output
  · rw [size_setCells]; exact h.size
  · intro k hk hb; rw [heap_setCells_ne _ hb]; exact h.block k hk hb

/-- A table of the library's. -/
def Tab (P : Program) (w : World) : Prop := Lib.TabIs P w "internal/strconv.uint64pow10" .u64 Lib.pow10Tab

theorem Tab.on {P : Program} {w w' : World} (h : Tab P w) (hb : ∀ g, P.globalNamed "internal/strconv.uint64pow10" = some g → w'.heap[g]? = w.heap[g]?) : Tab P w' := by
  unfold Tab Lib.TabIs World.var? at *
  cases hg : P.globalNamed "internal/strconv.uint64pow10" with
  | none => rw [hg] at h; simp at h
  | some g => rw [hg] at h; simp only [Option.bind_some] at h ⊢; rw [hb g hg]; exact h

/-- The digits of a token. -/
def isDigB (c : UInt8) : Bool := 48 ≤ c && c ≤ 57
def isTok (n : Nat) (l : List UInt8) : Bool := l.length == n && l.all isDigB
def staleTo (p : Pc) (l : List UInt8) : Nat → Bool
  | 0 => false
  | k + 1 => staleTo p l k || decide (p.count (k : Int) < (l.getD k 0).toNat - 48)
def tokErr (n : Nat) (p : Pc) (l : List UInt8) : Int := if isTok n l then (if staleTo p l l.length then 3 else 0) else 2
def evErr (me n : Nat) (p : Pc) (l : List UInt8) : Int := if tokErr n p l = 0 then (if 9 ≤ p.count (me : Int) then 4 else 0) else tokErr n p l

/-- The digits of State. -/
def Pc.digsTo (p : Pc) : Nat → List UInt8
  | 0 => []
  | k + 1 => p.digsTo k ++ [dig (p.count (k : Int))]

theorem digsTo_len (p : Pc) (k : Nat) : (p.digsTo k).length = k := by
  induction k with
  | zero => rfl
  | succ k ih => simp [Pc.digsTo, ih]

end Go.Proofs.YticfcjicndjejaaDoor

namespace Go.Proofs.YticfcjicndjejaaDoor
set_option linter.unusedVariables false
set_option linter.unusedSimpArgs false
open Go.RowKit
variable {xt : Ext}

theorem size63 : (Tryd.prog.info? 63).map (·.size) = some 135 := by kernel_rfl

/-- The parts of an address, of a row. -/
def blkOf : Value → Nat
  | .pointer (some a) => a.block
  | _ => 0
def offOf : Value → Nat
  | .pointer (some a) => a.off
  | _ => 0
def isPt : Value → Bool
  | .pointer (some ⟨_, _, none⟩) => true
  | _ => false
def listOf : Value → List Value
  | .agg cs => cs.toList
  | _ => []
theorem blkOf_mk (b o : Nat) (s : Option Nat) : blkOf (.pointer (some ⟨b, o, s⟩)) = b := rfl
theorem offOf_mk (b o : Nat) (s : Option Nat) : offOf (.pointer (some ⟨b, o, s⟩)) = o := rfl
theorem isPt_mk (b o : Nat) : isPt (.pointer (some ⟨b, o, none⟩)) = true := rfl

/-- A piece's cells lie there. -/
def Has (w : World) (b o : Nat) : Prop := ∀ j, j < 135 → (w.cell? ⟨b, o + j, none⟩).isSome = true
def rowOf (w : World) (b o : Nat) : Array Value := ((List.range 135).map fun j => (w.cell? ⟨b, o + j, none⟩).getD undef).toArray
def HasW (w : World) (b o : Nat) : Prop := w.there b o 135
def isRow (v : Value) : Prop := (listOf v).length = 135 ∧ (∃ cs, v = .agg cs) ∧ ∀ x ∈ listOf v, x.oneCell' = true
def putRowAt (w : World) (b o : Nat) (v : Value) : World := w.setCells b o (listOf v)

theorem isPt_form {v : Value} (h : isPt v = true) : v = .pointer (some ⟨blkOf v, offOf v, none⟩) := by
  unfold isPt at h
  split at h
  · rfl
  · cases h

theorem run_load63 (ρ : Operand → Value) (d : Option Tmp) (x : Operand) (ty : TypeId) (pos : String) (after : Array Edge) (g : Option (Nat × Bool)) (w : World)
    (h1 : isPt (ρ x) = true) (h2 : Has w (blkOf (ρ x)) (offOf (ρ x))) :
    (execOp ρ ⟨d, .load 63 x, ty, pos, after, g⟩).run Tryd.prog w = .ok (.value (.agg (rowOf w (blkOf (ρ x)) (offOf (ρ x))))) w := by
  have hx := isPt_form h1
  generalize blkOf (ρ x) = b at *
  generalize offOf (ρ x) = o at *
  unfold execOp
  simp only [hx]
  have := run_loadAt_mid (P := Tryd.prog) w b o 63 ((List.range 135).map fun j => (w.cell? ⟨b, o + j, none⟩).getD undef) _ (by
    intro j v hv
    have hj : j < 135 := by
      have := (List.getElem?_eq_some_iff.1 hv).1; simpa using this
    have hs := h2 j hj
    obtain ⟨u, hu⟩ := Option.isSome_iff_exists.1 hs
    simp [hj, hu] at hv
    rw [hu, hv]) Tryd.underlying63 rfl (by rw [size63]; simp)
  simp only [Sem.run_bind, this, Result.andThen_ok, Sem.run_pure]
  rfl

theorem run_store63 (ρ : Operand → Value) (d : Option Tmp) (x y : Operand) (ty : TypeId) (pos : String) (after : Array Edge) (g : Option (Nat × Bool)) (w : World)
    (h1 : isPt (ρ x) = true) (h2 : HasW w (blkOf (ρ x)) (offOf (ρ x))) (h3 : isRow (ρ y)) :
    (execOp ρ ⟨d, .store 63 x y, ty, pos, after, g⟩).run Tryd.prog w = .ok .skip (putRowAt w (blkOf (ρ x)) (offOf (ρ x)) (ρ y)) := by
  have hx := isPt_form h1
  generalize blkOf (ρ x) = b at *
  generalize offOf (ρ x) = o at *
  obtain ⟨hl, ⟨cs, hcs⟩, hone⟩ := h3
  unfold execOp
  simp only [hx]
  rw [hcs] at hl hone ⊢
  have hsz : cs.size = 135 := by simpa [listOf] using hl
  have := run_storeAt_mid (P := Tryd.prog) w b o 63 cs (by rw [hsz]; exact h2) (by rw [size63, hsz]) (Array.all_eq_true_iff_forall_mem.2 (fun v hv => hone v (by simpa [listOf] using hv)))
  simp only [Sem.run_bind, this, Result.andThen_ok, Sem.run_pure]
  rfl

theorem Has_of {w : World} {b o : Nat} {C : Array Value} {t : TypeId} (h : w.heap[b]? = some (.cells C t)) (hs : o + 135 ≤ C.size) : Has w b o := fun j hj => by
  rw [blk_cell h]; simp; omega
theorem HasW_of {w : World} {b o : Nat} {C : Array Value} {t : TypeId} (h : w.heap[b]? = some (.cells C t)) (hs : o + 135 ≤ C.size) : HasW w b o := fun j hj => by
  refine ⟨?_, blk_frozen h _⟩
  rw [blk_cell h]; simp; omega
theorem rowOf_pc {w : World} {b : Nat} {p : Pc} {t : TypeId} (h : w.heap[b]? = some (.cells p.arr t)) : rowOf w b 0 = p.arr := by
  have : ((List.range 135).map fun j => (w.cell? ⟨b, 0 + j, none⟩).getD undef) = p.cells := by
    unfold Pc.cells
    refine List.map_congr_left fun j hj => ?_
    have hj' : j < 135 := by simpa using hj
    rw [blk_cell h, Nat.zero_add, Pc.at p j hj']; rfl
  unfold rowOf Pc.arr; rw [this]
theorem rowOf_rep {w : World} {b me n : Nat} {p : Pc} {t : TypeId} (h : w.heap[b]? = some (.cells (repArr me n p xt) t)) : rowOf w b 2 = p.arr := by
  have : ((List.range 135).map fun j => (w.cell? ⟨b, 2 + j, none⟩).getD undef) = p.cells := by
    unfold Pc.cells
    refine List.map_congr_left fun j hj => ?_
    have hj' : j < 135 := by simpa using hj
    have hr := rep_range h j _ (List.getElem?_eq_getElem (by rw [Pc.len]; exact hj'))
    rw [hr]
    simp [Pc.cells]
  unfold rowOf Pc.arr; rw [this]
theorem Has_rep {w : World} {b me n : Nat} {p : Pc} {t : TypeId} (h : w.heap[b]? = some (.cells (repArr me n p xt) t)) : Has w b 2 := Has_of h (by rw [repArr_size]; decide)
theorem HasW_rep {w : World} {b me n : Nat} {p : Pc} {t : TypeId} (h : w.heap[b]? = some (.cells (repArr me n p xt) t)) : HasW w b 2 := HasW_of h (by rw [repArr_size]; decide)
theorem Has_pc {w : World} {b : Nat} {p : Pc} {t : TypeId} (h : w.heap[b]? = some (.cells p.arr t)) : Has w b 0 := Has_of h (by rw [Pc.size]; decide)
theorem HasW_pc {w : World} {b : Nat} {p : Pc} {t : TypeId} (h : w.heap[b]? = some (.cells p.arr t)) : HasW w b 0 := HasW_of h (by rw [Pc.size]; decide)
theorem isRow_pc (p : Pc) : isRow (.agg p.arr) := ⟨by simp [listOf, Pc.arr, Pc.len], ⟨_, rfl⟩, fun x hx => Pc.one p x (by simpa [listOf, Pc.arr] using hx)⟩

theorem put_rep {w : World} {b me n : Nat} {p q : Pc} {t : TypeId} (h : w.heap[b]? = some (.cells (repArr me n p xt) t)) : (putRowAt w b 2 (.agg q.arr)).heap[b]? = some (.cells (repArr me n q xt) t) := by
  show (w.setCells b 2 (q.arr.toList)).heap[b]? = _
  rw [show q.arr.toList = q.cells from by simp [Pc.arr], heap_setCells_self _ h, rep_splice]
theorem put_pc {w : World} {b : Nat} {C : Array Value} {q : Pc} {t : TypeId} (h : w.heap[b]? = some (.cells C t)) (hC : C.size = 135) : (putRowAt w b 0 (.agg q.arr)).heap[b]? = some (.cells q.arr t) := by
  show (w.setCells b 0 (q.arr.toList)).heap[b]? = _
  rw [show q.arr.toList = q.cells from by simp [Pc.arr], heap_setCells_self _ h, splice_all _ _ (by rw [Pc.len]; omega)]; rfl
theorem put_ne {w : World} {b b' o : Nat} {v : Value} (h : b' ≠ b) : (putRowAt w b o v).heap[b']? = w.heap[b']? := heap_setCells_ne _ h
theorem put_size {w : World} {b o : Nat} {v : Value} : (putRowAt w b o v).heap.size = w.heap.size := size_setCells _
theorem put_bx {b : Nat} {a w : World} (h : Bx b a w) (o : Nat) (v : Value) : Bx b a (putRowAt w b o v) := h.scs _ _
theorem put_blw {b : Nat} {a w : World} (h : Blw a w) (o : Nat) (v : Value) (hb : a.heap.size ≤ b) : Blw a (putRowAt w b o v) := h.scs _ _ _ hb

theorem Has_drew (w : World) (b o : Nat) : Has w.drew b o = Has w b o := rfl
theorem HasW_drew (w : World) (b o : Nat) : HasW w.drew b o = HasW w b o := rfl
theorem rowOf_drew (w : World) (b o : Nat) : rowOf w.drew b o = rowOf w b o := rfl

theorem cell_al {w : World} {b o : Nat} (ob : Obj) (h : b < w.heap.size) : (w.alloc ob).cell? ⟨b, o, none⟩ = w.cell? ⟨b, o, none⟩ := World.cell?_of_block (w := w) (Below.heap_alloc w ob b h)
theorem Has_alloc (w : World) (ob : Obj) (b o : Nat) (h : b < w.heap.size) : Has (w.alloc ob) b o = Has w b o := by
  unfold Has; simp only [cell_al ob h]
theorem rowOf_alloc (w : World) (ob : Obj) (b o : Nat) (h : b < w.heap.size) : rowOf (w.alloc ob) b o = rowOf w b o := by
  unfold rowOf; simp only [cell_al ob h]
theorem cell_put (w : World) (b' o' b o : Nat) (v : Value) (h : b ≠ b') : (putRowAt w b' o' v).cell? ⟨b, o, none⟩ = w.cell? ⟨b, o, none⟩ := cell_setCells_ne _ _ h
theorem Has_put (w : World) (b' o' b o : Nat) (v : Value) (h : b ≠ b') : Has (putRowAt w b' o' v) b o = Has w b o := by
  unfold Has; simp only [cell_put w b' o' b _ v h]
theorem rowOf_put (w : World) (b' o' b o : Nat) (v : Value) (h : b ≠ b') : rowOf (putRowAt w b' o' v) b o = rowOf w b o := by
  unfold rowOf; simp only [cell_put w b' o' b _ v h]
theorem zero63 : Tryd.zeroCells63 = Pc.empty.arr := by kernel_rfl
theorem zsize63 : Tryd.zeroCells63.size = 135 := by rw [zero63, Pc.size]
theorem HasW_new (w : World) : HasW (w.alloc (.cells Tryd.zeroCells63 63)) w.heap.size 0 = True := by
  have : HasW (w.alloc (.cells Tryd.zeroCells63 63)) w.heap.size 0 := HasW_of (hp_new _ _) (by rw [zsize63]; decide)
  simp [this]
theorem put_new {w : World} {q : Pc} : (putRowAt (w.alloc (.cells Tryd.zeroCells63 63)) w.heap.size 0 (.agg q.arr)).heap[w.heap.size]? = some (.cells q.arr 63) := put_pc (hp_new _ _) zsize63
theorem lt_ne' {a b : Nat} (h : a < b) : a ≠ b := Nat.ne_of_lt h
end Go.Proofs.YticfcjicndjejaaDoor
