import Derived.Test.YtkeanpabacfdlaaGreatDoorM
import Derived.Deep.Upon
import Derived.Lib.LaidTab
import Derived.Lib.ItoaNum
namespace Go.Proofs.YtkeanpabacfdlaaGreatDoor
set_option linter.unusedVariables false
set_option linter.unusedSimpArgs false
open Go.RowKit

/-- What a replica has beside what it holds. -/
structure Ext where
  had : Nat
  log : List UInt8
def Ext.cells (x : Ext) : List Value := [.int .i64 x.had, .string ⟨x.log.toArray⟩]

/-- A replica's row. -/
def repCells (me n : Nat) (p : Pc) (x : Ext) : List Value := ([.int .i64 me, .int .i64 n] ++ p.cells) ++ x.cells
def repArr (me n : Nat) (p : Pc) (x : Ext) : Array Value := (repCells me n p x).toArray

variable {xt : Ext}

theorem repArr_size (me n : Nat) (p : Pc) : (repArr me n p xt).size = 139 := by simp [repArr, repCells, Pc.len, Ext.cells]

theorem rep_me {w : World} {b me n : Nat} {p : Pc} {t : TypeId} (h : w.heap[b]? = some (.cells (repArr me n p xt) t)) : w.cell? ⟨b, 0, none⟩ = some (.int .i64 me) := by
  rw [blk_cell h]; rfl
theorem rep_n {w : World} {b me n : Nat} {p : Pc} {t : TypeId} (h : w.heap[b]? = some (.cells (repArr me n p xt) t)) : w.cell? ⟨b, 1, none⟩ = some (.int .i64 n) := by
  rw [blk_cell h]; rfl
theorem rep_at_ext (me n : Nat) (p : Pc) (k : Nat) : (repArr me n p xt)[137 + k]? = xt.cells[k]? := by
  simp only [repArr, repCells, List.getElem?_toArray]
  rw [List.getElem?_append_right (by simp [Pc.len])]
  have : 137 + k - ([Value.int .i64 (me : Int), Value.int .i64 (n : Int)] ++ p.cells).length = k := by simp [Pc.len]
  rw [this]
theorem rep_at_lo (me n : Nat) (p : Pc) (j : Nat) (h : j < 137) : (repArr me n p xt)[j]? = ([Value.int .i64 (me : Int), Value.int .i64 (n : Int)] ++ p.cells)[j]? := by
  simp only [repArr, repCells, List.getElem?_toArray]
  exact List.getElem?_append_left (by simp [Pc.len]; omega)
theorem rep_had {w : World} {b me n : Nat} {p : Pc} {t : TypeId} (h : w.heap[b]? = some (.cells (repArr me n p xt) t)) : w.cell? ⟨b, 137, none⟩ = some (.int .i64 xt.had) := by
  rw [blk_cell h]; exact rep_at_ext me n p 0
theorem rep_log {w : World} {b me n : Nat} {p : Pc} {t : TypeId} (h : w.heap[b]? = some (.cells (repArr me n p xt) t)) : w.cell? ⟨b, 138, none⟩ = some (.string ⟨xt.log.toArray⟩) := by
  rw [blk_cell h]; exact rep_at_ext me n p 1
theorem rep_range {w : World} {b me n : Nat} {p : Pc} {t : TypeId} (h : w.heap[b]? = some (.cells (repArr me n p xt) t)) : w.rangeAt b 2 p.cells := by
  intro j v hv
  rw [blk_cell h]
  have hj : j < 135 := by
    have := (List.getElem?_eq_some_iff.1 hv).1; rw [Pc.len] at this; exact this
  simp only [repArr, repCells, List.getElem?_toArray]
  rw [List.getElem?_append_left (by simp [Pc.len]; omega), List.getElem?_append_right (by simp)]
  simpa using hv
theorem rep_there {w : World} {b me n : Nat} {p : Pc} {t : TypeId} (h : w.heap[b]? = some (.cells (repArr me n p xt) t)) : w.there b 2 135 := by
  intro j hj
  refine ⟨?_, blk_frozen h _⟩
  rw [blk_cell h]
  have := repArr_size (xt := xt) me n p
  simp; omega
theorem pc_range {w : World} {b : Nat} {p : Pc} {t : TypeId} (h : w.heap[b]? = some (.cells p.arr t)) : w.rangeAt b 0 p.cells := by
  intro j v hv
  rw [blk_cell h]
  simpa [Pc.arr] using hv
theorem pc_there {w : World} {b : Nat} {C : Array Value} {t : TypeId} (h : w.heap[b]? = some (.cells C t)) (hC : C.size = 135) : w.there b 0 135 := by
  intro j hj
  refine ⟨?_, blk_frozen h _⟩
  rw [blk_cell h]
  simp; omega

theorem rep_splice (me n : Nat) (p q : Pc) : splice (repArr me n p xt) 2 q.cells = repArr me n q xt := by
  refine Array.ext_getElem? fun j => ?_
  rw [splice_at _ _ _ _ (by rw [repArr_size, Pc.len]; decide), Pc.len]
  by_cases h : 2 ≤ j ∧ j < 2 + 135
  · rw [if_pos h]
    simp only [repArr, repCells, List.getElem?_toArray]
    rw [List.getElem?_append_left (by simp [Pc.len]; omega), List.getElem?_append_right (by simp; omega)]
    simp
  · rw [if_neg h]
    by_cases h2 : j < 2
    · rw [rep_at_lo _ _ _ _ (by omega), rep_at_lo _ _ _ _ (by omega), List.getElem?_append_left (by simpa using h2), List.getElem?_append_left (by simpa using h2)]
    · by_cases h3 : j < 139
      · obtain ⟨k, rfl⟩ : ∃ k, j = 137 + k := ⟨j - 137, by omega⟩
        rw [rep_at_ext, rep_at_ext]
      · rw [Array.getElem?_eq_none (by rw [repArr_size]; omega), Array.getElem?_eq_none (by rw [repArr_size]; omega)]

/-- What a store beside what is held leaves. -/
theorem rep_set (me n : Nat) (p : Pc) (y : Ext) (k : Nat) (v : Value) (hk : k < 2) (hy : y.cells = xt.cells.set k v) : (repArr me n p xt).setIfInBounds (137 + k) v = repArr me n p y := by
  refine Array.ext_getElem? fun j => ?_
  rw [Array.getElem?_setIfInBounds]
  by_cases h : 137 + k = j
  · subst h
    rw [if_pos rfl, if_pos (by rw [repArr_size]; omega), rep_at_ext, hy, List.getElem?_set_self (by simp [Ext.cells]; omega)]
  · rw [if_neg h]
    by_cases h2 : j < 137
    · rw [rep_at_lo _ _ _ _ (by omega), rep_at_lo _ _ _ _ (by omega)]
    · by_cases h3 : j < 139
      · obtain ⟨m, rfl⟩ : ∃ m, j = 137 + m := ⟨j - 137, by omega⟩
        rw [rep_at_ext, rep_at_ext, hy, List.getElem?_set_ne (by omega)]
      · rw [Array.getElem?_eq_none (by rw [repArr_size]; omega), Array.getElem?_eq_none (by rw [repArr_size]; omega)]

/-- Everything below but block b is as it was. -/
structure Bx (b : Nat) (a w : World) : Prop where
  os : w.os = a.os
  tape : w.tape = a.tape
  output : w.output = a.output
  size : a.heap.size ≤ w.heap.size
  block : ∀ k, k < a.heap.size → k ≠ b → w.heap[k]? = a.heap[k]?

theorem Blw.bx {a w : World} (h : Blw a w) (b : Nat) : Bx b a w := ⟨h.os, h.tape, h.output, h.size, fun k hk _ => h.block k hk⟩
theorem Bx.rfl (b : Nat) (a : World) : Bx b a a := ⟨_root_.rfl, _root_.rfl, _root_.rfl, Nat.le_refl _, fun _ _ _ => _root_.rfl⟩
theorem Bx.tr {b : Nat} {u v w : World} (h : Bx b u v) (k : Bx b v w) : Bx b u w :=
  ⟨k.os.trans h.os, k.tape.trans h.tape, k.output.trans h.output, Nat.le_trans h.size k.size, fun i hi hb => (k.block i (Nat.lt_of_lt_of_le hi h.size) hb).trans (h.block i hi hb)⟩
theorem Bx.scs {b : Nat} {a w : World} (h : Bx b a w) (o : Nat) (vs : List Value) : Bx b a (w.setCells b o vs) := by
  refine ⟨?_, ?_, ?_, ?_, ?_⟩
  · rw [World.os_setCells]; exact h.os
  · have : ∀ (vs : List Value) (o : Nat) (w : World), (w.setCells b o vs).tape = w.tape := by
      intro vs; induction vs with
      | nil => intro o w; rfl
      | cons v r ih => intro o w; exact (ih _ _).trans _root_.rfl
    rw [this]; exact h.tape
  · rw [World.output_setCells]; exact h.output
  · rw [size_setCells]; exact h.size
  · intro k hk hb; rw [heap_setCells_ne _ hb]; exact h.block k hk hb

/-- A table of the library's. -/
def Tab (P : Program) (w : World) : Prop := Lib.TabIs P w "internal/strconv.uint64pow10" .u64 Lib.pow10Tab

theorem Tab.on {P : Program} {w w' : World} (h : Tab P w) (hb : ∀ g, P.globalNamed "internal/strconv.uint64pow10" = some g → w'.heap[g]? = w.heap[g]?) : Tab P w' := by
  unfold Tab Lib.TabIs World.var? at *
  cases hg : P.globalNamed "internal/strconv.uint64pow10" with
  | none => rw [hg] at h; simp at h
  | some g => rw [hg] at h; simp only [Option.bind_some] at h ⊢; rw [hb g hg]; exact h

/-- The digits of a token. -/
def isDigB (c : UInt8) : Bool := 48 ≤ c && c ≤ 57
def isTok (n : Nat) (l : List UInt8) : Bool := l.length == n && l.all isDigB
def staleTo (p : Pc) (l : List UInt8) : Nat → Bool
  | 0 => false
  | k + 1 => staleTo p l k || decide (p.count (k : Int) < (l.getD k 0).toNat - 48)
def tokErr (n : Nat) (p : Pc) (l : List UInt8) : Int := if isTok n l then (if staleTo p l l.length then 3 else 0) else 2
def evErr (me n : Nat) (p : Pc) (l : List UInt8) : Int := if tokErr n p l = 0 then (if 9 ≤ p.count (me : Int) then 4 else 0) else tokErr n p l

/-- The digits of State. -/
def Pc.digsTo (p : Pc) : Nat → List UInt8
  | 0 => []
  | k + 1 => p.digsTo k ++ [dig (p.count (k : Int))]

theorem digsTo_len (p : Pc) (k : Nat) : (p.digsTo k).length = k := by
  induction k with
  | zero => rfl
  | succ k ih => simp [Pc.digsTo, ih]

end Go.Proofs.YtkeanpabacfdlaaGreatDoor
