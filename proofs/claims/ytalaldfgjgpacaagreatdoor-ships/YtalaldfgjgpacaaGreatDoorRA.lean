import Derived.Test.YtalaldfgjgpacaaGreatDoorML
import Derived.Deep.Upon
import Derived.Lib.LaidTab
import Derived.Lib.ItoaNum
import Derived.Test.YtalaldfgjgpacaaGreatDoorProg
import Derived.KernelRfl
namespace Go.Proofs.YtalaldfgjgpacaaGreatDoor
set_option linter.unusedVariables false
set_option linter.unusedSimpArgs false
open Go.RowKit

/-- What a replica has beside what it holds: how many deltas it has had, its log, its deltas since New or Open (the last one first), what each has acknowledged. -/
structure Ext where
  had : Nat
  log : List UInt8
  late : List Pc
  ack : Nat → Nat
/-- The delta at a place of what is remembered. -/
def Ext.lat (x : Ext) (k : Nat) : Pc := x.late.getD k Pc.empty
def Ext.kept (x : Ext) : Nat := min 4 x.late.length
def Ext.tail (x : Ext) : List Value := [.int .i64 x.kept, .int .i64 (x.ack 0), .int .i64 (x.ack 1), .int .i64 (x.ack 2)]
def Ext.recs (x : Ext) : List Value := (x.lat 0).cells ++ ((x.lat 1).cells ++ ((x.lat 2).cells ++ (x.lat 3).cells))
def Ext.cells (x : Ext) : List Value := [.int .i64 x.had, .string ⟨x.log.toArray⟩] ++ (x.recs ++ x.tail)
theorem Ext.recs_len (x : Ext) : x.recs.length = 540 := by simp [Ext.recs, Pc.len]
theorem Ext.cells_len (x : Ext) : x.cells.length = 546 := by simp [Ext.cells, Ext.recs_len, Ext.tail]

/-- A replica's row. -/
def repCells (me n : Nat) (p : Pc) (x : Ext) : List Value := ([.int .i64 me, .int .i64 n] ++ p.cells) ++ x.cells
def repArr (me n : Nat) (p : Pc) (x : Ext) : Array Value := (repCells me n p x).toArray

variable {xt : Ext}

theorem repArr_size (me n : Nat) (p : Pc) : (repArr me n p xt).size = 683 := by simp [repArr, repCells, Pc.len, Ext.cells_len]

theorem rep_me {w : World} {b me n : Nat} {p : Pc} {t : TypeId} (h : w.heap[b]? = some (.cells (repArr me n p xt) t)) : w.cell? ⟨b, 0, none⟩ = some (.int .i64 me) := by
  rw [blk_cell h]; rfl
theorem rep_n {w : World} {b me n : Nat} {p : Pc} {t : TypeId} (h : w.heap[b]? = some (.cells (repArr me n p xt) t)) : w.cell? ⟨b, 1, none⟩ = some (.int .i64 n) := by
  rw [blk_cell h]; rfl
theorem rep_at_ext (me n : Nat) (p : Pc) (k : Nat) : (repArr me n p xt)[137 + k]? = xt.cells[k]? := by
  simp only [repArr, repCells, List.getElem?_toArray]
  rw [List.getElem?_append_right (by simp [Pc.len])]
  have : 137 + k - ([Value.int .i64 (me : Int), Value.int .i64 (n : Int)] ++ p.cells).length = k := by simp [Pc.len]
  rw [this]
theorem rep_at_lo (me n : Nat) (p : Pc) (j : Nat) (h : j < 137) : (repArr me n p xt)[j]? = ([Value.int .i64 (me : Int), Value.int .i64 (n : Int)] ++ p.cells)[j]? := by
  simp only [repArr, repCells, List.getElem?_toArray]
  exact List.getElem?_append_left (by simp [Pc.len]; omega)
theorem rep_had {w : World} {b me n : Nat} {p : Pc} {t : TypeId} (h : w.heap[b]? = some (.cells (repArr me n p xt) t)) : w.cell? ⟨b, 137, none⟩ = some (.int .i64 xt.had) := by
  rw [blk_cell h]; exact rep_at_ext me n p 0
theorem rep_log {w : World} {b me n : Nat} {p : Pc} {t : TypeId} (h : w.heap[b]? = some (.cells (repArr me n p xt) t)) : w.cell? ⟨b, 138, none⟩ = some (.string ⟨xt.log.toArray⟩) := by
  rw [blk_cell h]; exact rep_at_ext me n p 1
theorem rep_range {w : World} {b me n : Nat} {p : Pc} {t : TypeId} (h : w.heap[b]? = some (.cells (repArr me n p xt) t)) : w.rangeAt b 2 p.cells := by
  intro j v hv
  rw [blk_cell h]
  have hj : j < 135 := by
    have := (List.getElem?_eq_some_iff.1 hv).1; rw [Pc.len] at this; exact this
  simp only [repArr, repCells, List.getElem?_toArray]
  rw [List.getElem?_append_left (by simp [Pc.len]; omega), List.getElem?_append_right (by simp)]
  simpa using hv
theorem rep_there {w : World} {b me n : Nat} {p : Pc} {t : TypeId} (h : w.heap[b]? = some (.cells (repArr me n p xt) t)) : w.there b 2 135 := by
  intro j hj
  refine ⟨?_, blk_frozen h _⟩
  rw [blk_cell h]
  have := repArr_size (xt := xt) me n p
  simp; omega
theorem pc_range {w : World} {b : Nat} {p : Pc} {t : TypeId} (h : w.heap[b]? = some (.cells p.arr t)) : w.rangeAt b 0 p.cells := by
  intro j v hv
  rw [blk_cell h]
  simpa [Pc.arr] using hv
theorem pc_there {w : World} {b : Nat} {C : Array Value} {t : TypeId} (h : w.heap[b]? = some (.cells C t)) (hC : C.size = 135) : w.there b 0 135 := by
  intro j hj
  refine ⟨?_, blk_frozen h _⟩
  rw [blk_cell h]
  simp; omega

theorem rep_splice (me n : Nat) (p q : Pc) : splice (repArr me n p xt) 2 q.cells = repArr me n q xt := by
  refine Array.ext_getElem? fun j => ?_
  rw [splice_at _ _ _ _ (by rw [repArr_size, Pc.len]; decide), Pc.len]
  by_cases h : 2 ≤ j ∧ j < 2 + 135
  · rw [if_pos h]
    simp only [repArr, repCells, List.getElem?_toArray]
    rw [List.getElem?_append_left (by simp [Pc.len]; omega), List.getElem?_append_right (by simp; omega)]
    simp
  · rw [if_neg h]
    by_cases h2 : j < 2
    · rw [rep_at_lo _ _ _ _ (by omega), rep_at_lo _ _ _ _ (by omega), List.getElem?_append_left (by simpa using h2), List.getElem?_append_left (by simpa using h2)]
    · by_cases h3 : j < 683
      · obtain ⟨k, rfl⟩ : ∃ k, j = 137 + k := ⟨j - 137, by omega⟩
        rw [rep_at_ext, rep_at_ext]
      · rw [Array.getElem?_eq_none (by rw [repArr_size]; omega), Array.getElem?_eq_none (by rw [repArr_size]; omega)]

/-- What a store beside what is held leaves. -/
theorem rep_set (me n : Nat) (p : Pc) (y : Ext) (k : Nat) (v : Value) (hk : k < 546) (hy : y.cells = xt.cells.set k v) : (repArr me n p xt).setIfInBounds (137 + k) v = repArr me n p y := by
  refine Array.ext_getElem? fun j => ?_
  rw [Array.getElem?_setIfInBounds]
  by_cases h : 137 + k = j
  · subst h
    rw [if_pos rfl, if_pos (by rw [repArr_size]; omega), rep_at_ext, hy, List.getElem?_set_self (by rw [Ext.cells_len]; exact hk)]
  · rw [if_neg h]
    by_cases h2 : j < 137
    · rw [rep_at_lo _ _ _ _ (by omega), rep_at_lo _ _ _ _ (by omega)]
    · by_cases h3 : j < 683
      · obtain ⟨m, rfl⟩ : ∃ m, j = 137 + m := ⟨j - 137, by omega⟩
        rw [rep_at_ext, rep_at_ext, hy, List.getElem?_set_ne (by omega)]
      · rw [Array.getElem?_eq_none (by rw [repArr_size]; omega), Array.getElem?_eq_none (by rw [repArr_size]; omega)]

/-- The cells of what is remembered. -/
theorem recs_at (x : Ext) (k j : Nat) (hk : k < 4) (hj : j < 135) : x.recs[k * 135 + j]? = (x.lat k).cells[j]? := by
  have l : ∀ i, (x.lat i).cells.length = 135 := fun i => Pc.len _
  unfold Ext.recs
  match k, hk with
  | 0, _ => rw [List.getElem?_append_left (by rw [l]; omega)]; simp
  | 1, _ =>
    rw [List.getElem?_append_right (by rw [l]; omega), List.getElem?_append_left (by rw [l, l]; omega), l, show 1 * 135 + j - 135 = j by omega]
  | 2, _ =>
    rw [List.getElem?_append_right (by rw [l]; omega), List.getElem?_append_right (by rw [l, l]; omega), List.getElem?_append_left (by rw [l, l, l]; omega), l, l, show 2 * 135 + j - 135 - 135 = j by omega]
  | 3, _ =>
    rw [List.getElem?_append_right (by rw [l]; omega), List.getElem?_append_right (by rw [l, l]; omega), List.getElem?_append_right (by rw [l, l, l]; omega), l, l, l, show 3 * 135 + j - 135 - 135 - 135 = j by omega]
theorem rep_at_rec (me n : Nat) (p : Pc) (k j : Nat) (hk : k < 4) (hj : j < 135) : (repArr me n p xt)[139 + k * 135 + j]? = (xt.lat k).cells[j]? := by
  have e : 139 + k * 135 + j = 137 + (2 + (k * 135 + j)) := by omega
  rw [e, rep_at_ext, Ext.cells, List.getElem?_append_right (by simp)]
  have e2 : 2 + (k * 135 + j) - [Value.int .i64 (xt.had : Int), Value.string ⟨xt.log.toArray⟩].length = k * 135 + j := by simp
  rw [e2, List.getElem?_append_left (by rw [Ext.recs_len]; omega), recs_at _ _ _ hk hj]
theorem rep_at_tail (me n : Nat) (p : Pc) (k : Nat) : (repArr me n p xt)[679 + k]? = xt.tail[k]? := by
  have e : 679 + k = 137 + (2 + (540 + k)) := by omega
  rw [e, rep_at_ext, Ext.cells, List.getElem?_append_right (by simp)]
  have e2 : 2 + (540 + k) - [Value.int .i64 (xt.had : Int), Value.string ⟨xt.log.toArray⟩].length = 540 + k := by simp
  rw [e2, List.getElem?_append_right (by rw [Ext.recs_len]; omega), Ext.recs_len, show 540 + k - 540 = k by omega]
theorem rep_kept {w : World} {b me n : Nat} {p : Pc} {t : TypeId} (h : w.heap[b]? = some (.cells (repArr me n p xt) t)) : w.cell? ⟨b, 679, none⟩ = some (.int .i64 xt.kept) := by
  rw [blk_cell h]; exact rep_at_tail me n p 0
theorem rep_ack {w : World} {b me n : Nat} {p : Pc} {t : TypeId} (h : w.heap[b]? = some (.cells (repArr me n p xt) t)) (r : Nat) (hr : r < 3) : w.cell? ⟨b, 680 + r, none⟩ = some (.int .i64 (xt.ack r)) := by
  rw [blk_cell h]
  have e : 680 + r = 679 + (1 + r) := by omega
  rw [e, rep_at_tail]
  match r, hr with
  | 0, _ => rfl
  | 1, _ => rfl
  | 2, _ => rfl

/-- Two rows are one, part by part. -/
theorem rep_ext (C : Array Value) (me n : Nat) (p : Pc) (x : Ext) (h0 : C[0]? = some (.int .i64 me)) (h1 : C[1]? = some (.int .i64 n)) (hp : ∀ j, j < 135 → C[2 + j]? = p.cells[j]?) (h2 : C[137]? = some (.int .i64 x.had)) (h3 : C[138]? = some (.string ⟨x.log.toArray⟩))
    (hr : ∀ k j, k < 4 → j < 135 → C[139 + k * 135 + j]? = (x.lat k).cells[j]?) (ht : ∀ k, k < 4 → C[679 + k]? = x.tail[k]?) (hs : C.size = 683) : C = repArr me n p x := by
  refine Array.ext_getElem? fun j => ?_
  by_cases h : j < 2
  · rw [rep_at_lo _ _ _ _ (by omega)]
    match j, h with
    | 0, _ => exact h0
    | 1, _ => exact h1
  · by_cases h' : j < 137
    · obtain ⟨k, rfl⟩ : ∃ k, j = 2 + k := ⟨j - 2, by omega⟩
      rw [hp k (by omega), rep_at_lo _ _ _ _ h', List.getElem?_append_right (by simp)]
      simp
    · by_cases h2' : j < 139
      · have : j = 137 ∨ j = 138 := by omega
        rcases this with rfl | rfl
        · rw [h2]; exact (rep_at_ext (xt := x) me n p 0).symm
        · rw [h3]; exact (rep_at_ext (xt := x) me n p 1).symm
      · by_cases h4 : j < 679
        · obtain ⟨k, m, hk, hm, rfl⟩ : ∃ k m, k < 4 ∧ m < 135 ∧ j = 139 + k * 135 + m := ⟨(j - 139) / 135, (j - 139) % 135, by omega, by omega, by omega⟩
          rw [hr k m hk hm, rep_at_rec _ _ _ _ _ hk hm]
        · by_cases h5 : j < 683
          · obtain ⟨k, rfl⟩ : ∃ k, j = 679 + k := ⟨j - 679, by omega⟩
            rw [ht k (by omega), rep_at_tail]
          · rw [Array.getElem?_eq_none (by omega), Array.getElem?_eq_none (by rw [repArr_size]; omega)]

/-- Everything below but block b is as it was. -/
structure Bx (b : Nat) (a w : World) : Prop where
  os : w.os = a.os
  tape : w.tape = a.tape
  output : w.output = a.output
  size : a.heap.size ≤ w.heap.size
  block : ∀ k, k < a.heap.size → k ≠ b → w.heap[k]? = a.heap[k]?

theorem Blw.bx {a w : World} (h : Blw a w) (b : Nat) : Bx b a w := ⟨h.os, h.tape, h.output, h.size, fun k hk _ => h.block k hk⟩
theorem Bx.rfl (b : Nat) (a : World) : Bx b a a := ⟨_root_.rfl, _root_.rfl, _root_.rfl, Nat.le_refl _, fun _ _ _ => _root_.rfl⟩
theorem Bx.tr {b : Nat} {u v w : World} (h : Bx b u v) (k : Bx b v w) : Bx b u w :=
  ⟨k.os.trans h.os, k.tape.trans h.tape, k.output.trans h.output, Nat.le_trans h.size k.size, fun i hi hb => (k.block i (Nat.lt_of_lt_of_le hi h.size) hb).trans (h.block i hi hb)⟩
theorem Bx.scs {b : Nat} {a w : World} (h : Bx b a w) (o : Nat) (vs : List Value) : Bx b a (w.setCells b o vs) := by
  refine ⟨?_, ?_, ?_, ?_, ?_⟩
  · rw [World.os_setCells]; exact h.os
  · have : ∀ (vs : List Value) (o : Nat) (w : World), (w.setCells b o vs).tape = w.tape := by
      intro vs; induction vs with
      | nil => intro o w; rfl
      | cons v r ih => intro o w; exact (ih _ _).trans _root_.rfl
    rw [this]; exact h.tape
  · rw [World.output_setCells]; exact h.output
  · rw [size_setCells]; exact h.size
  · intro k hk hb; rw [heap_setCells_ne _ hb]; exact h.block k hk hb

/-- A table of the library's. -/
def Tab (P : Program) (w : World) : Prop := Lib.TabIs P w "internal/strconv.uint64pow10" .u64 Lib.pow10Tab

theorem Tab.on {P : Program} {w w' : World} (h : Tab P w) (hb : ∀ g, P.globalNamed "internal/strconv.uint64pow10" = some g → w'.heap[g]? = w.heap[g]?) : Tab P w' := by
  unfold Tab Lib.TabIs World.var? at *
  cases hg : P.globalNamed "internal/strconv.uint64pow10" with
  | none => rw [hg] at h; simp at h
  | some g => rw [hg] at h; simp only [Option.bind_some] at h ⊢; rw [hb g hg]; exact h

/-- The digits of a token. -/
def isDigB (c : UInt8) : Bool := 48 ≤ c && c ≤ 57
def isTok (n : Nat) (l : List UInt8) : Bool := l.length == n && l.all isDigB
def staleTo (p : Pc) (l : List UInt8) : Nat → Bool
  | 0 => false
  | k + 1 => staleTo p l k || decide (p.count (k : Int) < (l.getD k 0).toNat - 48)
def tokErr (n : Nat) (p : Pc) (l : List UInt8) : Int := if isTok n l then (if staleTo p l l.length then 3 else 0) else 2
def evErr (me n : Nat) (p : Pc) (l : List UInt8) : Int := if tokErr n p l = 0 then (if 9 ≤ p.count (me : Int) then 4 else 0) else tokErr n p l

/-- The digits of State. -/
def Pc.digsTo (p : Pc) : Nat → List UInt8
  | 0 => []
  | k + 1 => p.digsTo k ++ [dig (p.count (k : Int))]

theorem digsTo_len (p : Pc) (k : Nat) : (p.digsTo k).length = k := by
  induction k with
  | zero => rfl
  | succ k ih => simp [Pc.digsTo, ih]

end Go.Proofs.YtalaldfgjgpacaaGreatDoor

namespace Go.Proofs.YtalaldfgjgpacaaGreatDoor
set_option linter.unusedVariables false
set_option linter.unusedSimpArgs false
open Go.RowKit
variable {xt : Ext}

theorem size63 : (Tryz.prog.info? 65).map (·.size) = some 135 := by kernel_rfl

/-- The parts of an address, of a row. -/
def blkOf : Value → Nat
  | .pointer (some a) => a.block
  | _ => 0
def offOf : Value → Nat
  | .pointer (some a) => a.off
  | _ => 0
def isPt : Value → Bool
  | .pointer (some ⟨_, _, none⟩) => true
  | _ => false
def listOf : Value → List Value
  | .agg cs => cs.toList
  | _ => []
theorem blkOf_mk (b o : Nat) (s : Option Nat) : blkOf (.pointer (some ⟨b, o, s⟩)) = b := rfl
theorem offOf_mk (b o : Nat) (s : Option Nat) : offOf (.pointer (some ⟨b, o, s⟩)) = o := rfl
theorem isPt_mk (b o : Nat) : isPt (.pointer (some ⟨b, o, none⟩)) = true := rfl

/-- A piece's cells lie there. -/
def Has (w : World) (b o : Nat) : Prop := ∀ j, j < 135 → (w.cell? ⟨b, o + j, none⟩).isSome = true
def rowOf (w : World) (b o : Nat) : Array Value := ((List.range 135).map fun j => (w.cell? ⟨b, o + j, none⟩).getD undef).toArray
def HasW (w : World) (b o : Nat) : Prop := w.there b o 135
def isRow (v : Value) : Prop := (listOf v).length = 135 ∧ (∃ cs, v = .agg cs) ∧ ∀ x ∈ listOf v, x.oneCell' = true
def putRowAt (w : World) (b o : Nat) (v : Value) : World := w.setCells b o (listOf v)

theorem isPt_form {v : Value} (h : isPt v = true) : v = .pointer (some ⟨blkOf v, offOf v, none⟩) := by
  unfold isPt at h
  split at h
  · rfl
  · cases h

theorem run_load63 (ρ : Operand → Value) (d : Option Tmp) (x : Operand) (ty : TypeId) (pos : String) (after : Array Edge) (g : Option (Nat × Bool)) (w : World)
    (h1 : isPt (ρ x) = true) (h2 : Has w (blkOf (ρ x)) (offOf (ρ x))) :
    (execOp ρ ⟨d, .load 65 x, ty, pos, after, g⟩).run Tryz.prog w = .ok (.value (.agg (rowOf w (blkOf (ρ x)) (offOf (ρ x))))) w := by
  have hx := isPt_form h1
  generalize blkOf (ρ x) = b at *
  generalize offOf (ρ x) = o at *
  unfold execOp
  simp only [hx]
  have := run_loadAt_mid (P := Tryz.prog) w b o 65 ((List.range 135).map fun j => (w.cell? ⟨b, o + j, none⟩).getD undef) _ (by
    intro j v hv
    have hj : j < 135 := by
      have := (List.getElem?_eq_some_iff.1 hv).1; simpa using this
    have hs := h2 j hj
    obtain ⟨u, hu⟩ := Option.isSome_iff_exists.1 hs
    simp [hj, hu] at hv
    rw [hu, hv]) Tryz.underlying65 rfl (by rw [size63]; simp)
  simp only [Sem.run_bind, this, Result.andThen_ok, Sem.run_pure]
  rfl

theorem run_store63 (ρ : Operand → Value) (d : Option Tmp) (x y : Operand) (ty : TypeId) (pos : String) (after : Array Edge) (g : Option (Nat × Bool)) (w : World)
    (h1 : isPt (ρ x) = true) (h2 : HasW w (blkOf (ρ x)) (offOf (ρ x))) (h3 : isRow (ρ y)) :
    (execOp ρ ⟨d, .store 65 x y, ty, pos, after, g⟩).run Tryz.prog w = .ok .skip (putRowAt w (blkOf (ρ x)) (offOf (ρ x)) (ρ y)) := by
  have hx := isPt_form h1
  generalize blkOf (ρ x) = b at *
  generalize offOf (ρ x) = o at *
  obtain ⟨hl, ⟨cs, hcs⟩, hone⟩ := h3
  unfold execOp
  simp only [hx]
  rw [hcs] at hl hone ⊢
  have hsz : cs.size = 135 := by simpa [listOf] using hl
  have := run_storeAt_mid (P := Tryz.prog) w b o 65 cs (by rw [hsz]; exact h2) (by rw [size63, hsz]) (Array.all_eq_true_iff_forall_mem.2 (fun v hv => hone v (by simpa [listOf] using hv)))
  simp only [Sem.run_bind, this, Result.andThen_ok, Sem.run_pure]
  rfl

theorem Has_of {w : World} {b o : Nat} {C : Array Value} {t : TypeId} (h : w.heap[b]? = some (.cells C t)) (hs : o + 135 ≤ C.size) : Has w b o := fun j hj => by
  rw [blk_cell h]; simp; omega
theorem HasW_of {w : World} {b o : Nat} {C : Array Value} {t : TypeId} (h : w.heap[b]? = some (.cells C t)) (hs : o + 135 ≤ C.size) : HasW w b o := fun j hj => by
  refine ⟨?_, blk_frozen h _⟩
  rw [blk_cell h]; simp; omega
theorem rowOf_pc {w : World} {b : Nat} {p : Pc} {t : TypeId} (h : w.heap[b]? = some (.cells p.arr t)) : rowOf w b 0 = p.arr := by
  have : ((List.range 135).map fun j => (w.cell? ⟨b, 0 + j, none⟩).getD undef) = p.cells := by
    unfold Pc.cells
    refine List.map_congr_left fun j hj => ?_
    have hj' : j < 135 := by simpa using hj
    rw [blk_cell h, Nat.zero_add, Pc.at p j hj']; rfl
  unfold rowOf Pc.arr; rw [this]
theorem rowOf_rep {w : World} {b me n : Nat} {p : Pc} {t : TypeId} (h : w.heap[b]? = some (.cells (repArr me n p xt) t)) : rowOf w b 2 = p.arr := by
  have : ((List.range 135).map fun j => (w.cell? ⟨b, 2 + j, none⟩).getD undef) = p.cells := by
    unfold Pc.cells
    refine List.map_congr_left fun j hj => ?_
    have hj' : j < 135 := by simpa using hj
    have hr := rep_range h j _ (List.getElem?_eq_getElem (by rw [Pc.len]; exact hj'))
    rw [hr]
    simp [Pc.cells]
  unfold rowOf Pc.arr; rw [this]
theorem Has_rep {w : World} {b me n : Nat} {p : Pc} {t : TypeId} (h : w.heap[b]? = some (.cells (repArr me n p xt) t)) : Has w b 2 := Has_of h (by rw [repArr_size]; decide)
theorem HasW_rep {w : World} {b me n : Nat} {p : Pc} {t : TypeId} (h : w.heap[b]? = some (.cells (repArr me n p xt) t)) : HasW w b 2 := HasW_of h (by rw [repArr_size]; decide)
theorem Has_pc {w : World} {b : Nat} {p : Pc} {t : TypeId} (h : w.heap[b]? = some (.cells p.arr t)) : Has w b 0 := Has_of h (by rw [Pc.size]; decide)
theorem HasW_pc {w : World} {b : Nat} {p : Pc} {t : TypeId} (h : w.heap[b]? = some (.cells p.arr t)) : HasW w b 0 := HasW_of h (by rw [Pc.size]; decide)
theorem isRow_pc (p : Pc) : isRow (.agg p.arr) := ⟨by simp [listOf, Pc.arr, Pc.len], ⟨_, rfl⟩, fun x hx => Pc.one p x (by simpa [listOf, Pc.arr] using hx)⟩

theorem put_rep {w : World} {b me n : Nat} {p q : Pc} {t : TypeId} (h : w.heap[b]? = some (.cells (repArr me n p xt) t)) : (putRowAt w b 2 (.agg q.arr)).heap[b]? = some (.cells (repArr me n q xt) t) := by
  show (w.setCells b 2 (q.arr.toList)).heap[b]? = _
  rw [show q.arr.toList = q.cells from by simp [Pc.arr], heap_setCells_self _ h, rep_splice]
theorem put_pc {w : World} {b : Nat} {C : Array Value} {q : Pc} {t : TypeId} (h : w.heap[b]? = some (.cells C t)) (hC : C.size = 135) : (putRowAt w b 0 (.agg q.arr)).heap[b]? = some (.cells q.arr t) := by
  show (w.setCells b 0 (q.arr.toList)).heap[b]? = _
  rw [show q.arr.toList = q.cells from by simp [Pc.arr], heap_setCells_self _ h, splice_all _ _ (by rw [Pc.len]; omega)]; rfl
theorem put_ne {w : World} {b b' o : Nat} {v : Value} (h : b' ≠ b) : (putRowAt w b o v).heap[b']? = w.heap[b']? := heap_setCells_ne _ h
theorem put_size {w : World} {b o : Nat} {v : Value} : (putRowAt w b o v).heap.size = w.heap.size := size_setCells _
theorem put_bx {b : Nat} {a w : World} (h : Bx b a w) (o : Nat) (v : Value) : Bx b a (putRowAt w b o v) := h.scs _ _
theorem put_blw {b : Nat} {a w : World} (h : Blw a w) (o : Nat) (v : Value) (hb : a.heap.size ≤ b) : Blw a (putRowAt w b o v) := h.scs _ _ _ hb

theorem Has_drew (w : World) (b o : Nat) : Has w.drew b o = Has w b o := rfl
theorem HasW_drew (w : World) (b o : Nat) : HasW w.drew b o = HasW w b o := rfl
theorem rowOf_drew (w : World) (b o : Nat) : rowOf w.drew b o = rowOf w b o := rfl

theorem cell_al {w : World} {b o : Nat} (ob : Obj) (h : b < w.heap.size) : (w.alloc ob).cell? ⟨b, o, none⟩ = w.cell? ⟨b, o, none⟩ := World.cell?_of_block (w := w) (Below.heap_alloc w ob b h)
theorem Has_alloc (w : World) (ob : Obj) (b o : Nat) (h : b < w.heap.size) : Has (w.alloc ob) b o = Has w b o := by
  unfold Has; simp only [cell_al ob h]
theorem rowOf_alloc (w : World) (ob : Obj) (b o : Nat) (h : b < w.heap.size) : rowOf (w.alloc ob) b o = rowOf w b o := by
  unfold rowOf; simp only [cell_al ob h]
theorem cell_put (w : World) (b' o' b o : Nat) (v : Value) (h : b ≠ b') : (putRowAt w b' o' v).cell? ⟨b, o, none⟩ = w.cell? ⟨b, o, none⟩ := cell_setCells_ne _ _ h
theorem Has_put (w : World) (b' o' b o : Nat) (v : Value) (h : b ≠ b') : Has (putRowAt w b' o' v) b o = Has w b o := by
  unfold Has; simp only [cell_put w b' o' b _ v h]
theorem rowOf_put (w : World) (b' o' b o : Nat) (v : Value) (h : b ≠ b') : rowOf (putRowAt w b' o' v) b o = rowOf w b o := by
  unfold rowOf; simp only [cell_put w b' o' b _ v h]
theorem zero63 : Tryz.zeroCells65 = Pc.empty.arr := by kernel_rfl
theorem zsize63 : Tryz.zeroCells65.size = 135 := by rw [zero63, Pc.size]
theorem HasW_new (w : World) : HasW (w.alloc (.cells Tryz.zeroCells65 65)) w.heap.size 0 = True := by
  have : HasW (w.alloc (.cells Tryz.zeroCells65 65)) w.heap.size 0 := HasW_of (hp_new _ _) (by rw [zsize63]; decide)
  simp [this]
theorem put_new {w : World} {q : Pc} : (putRowAt (w.alloc (.cells Tryz.zeroCells65 65)) w.heap.size 0 (.agg q.arr)).heap[w.heap.size]? = some (.cells q.arr 65) := put_pc (hp_new _ _) zsize63
theorem lt_ne' {a b : Nat} (h : a < b) : a ≠ b := Nat.ne_of_lt h
end Go.Proofs.YtalaldfgjgpacaaGreatDoor

namespace Go.Proofs.YtalaldfgjgpacaaGreatDoor
set_option linter.unusedVariables false
set_option linter.unusedSimpArgs false
open Go.RowKit

/-- A replica's row on its way: what is remembered, and what stands behind it, told apart. -/
def recsF (f : Nat → Pc) : List Value := (f 0).cells ++ ((f 1).cells ++ ((f 2).cells ++ (f 3).cells))
def repArrF (me n : Nat) (p : Pc) (x : Ext) (f : Nat → Pc) (t : List Value) : Array Value := ((([Value.int .i64 (me : Int), Value.int .i64 (n : Int)] ++ p.cells)) ++ (([Value.int .i64 (x.had : Int), Value.string ⟨x.log.toArray⟩]) ++ (recsF f ++ t)) : List Value).toArray
theorem repF (me n : Nat) (p : Pc) (x : Ext) : repArr me n p x = repArrF me n p x x.lat x.tail := rfl

theorem recsF_len (f : Nat → Pc) : (recsF f).length = 540 := by simp [recsF, Pc.len]
theorem repF_size (me n : Nat) (p : Pc) (x : Ext) (f : Nat → Pc) (t : List Value) : (repArrF me n p x f t).size = 679 + t.length := by
  simp [repArrF, recsF_len, Pc.len]; omega
theorem recsF_at (f : Nat → Pc) (k j : Nat) (hk : k < 4) (hj : j < 135) : (recsF f)[k * 135 + j]? = (f k).cells[j]? := by
  have l : ∀ i, (f i).cells.length = 135 := fun i => Pc.len _
  unfold recsF
  match k, hk with
  | 0, _ => rw [List.getElem?_append_left (by rw [l]; omega)]; simp
  | 1, _ => rw [List.getElem?_append_right (by rw [l]; omega), List.getElem?_append_left (by rw [l, l]; omega), l, show 1 * 135 + j - 135 = j by omega]
  | 2, _ => rw [List.getElem?_append_right (by rw [l]; omega), List.getElem?_append_right (by rw [l, l]; omega), List.getElem?_append_left (by rw [l, l, l]; omega), l, l, show 2 * 135 + j - 135 - 135 = j by omega]
  | 3, _ => rw [List.getElem?_append_right (by rw [l]; omega), List.getElem?_append_right (by rw [l, l]; omega), List.getElem?_append_right (by rw [l, l, l]; omega), l, l, l, show 3 * 135 + j - 135 - 135 - 135 = j by omega]
theorem repF_lo (me n : Nat) (p : Pc) (x : Ext) (f : Nat → Pc) (t : List Value) (j : Nat) (h : j < 139) : (repArrF me n p x f t)[j]? = (([Value.int .i64 (me : Int), Value.int .i64 (n : Int)] ++ p.cells) ++ [Value.int .i64 (x.had : Int), Value.string ⟨x.log.toArray⟩])[j]? := by
  unfold repArrF
  rw [List.getElem?_toArray, ← List.append_assoc, List.getElem?_append_left (by simp [Pc.len]; omega)]
theorem repF_rec (me n : Nat) (p : Pc) (x : Ext) (f : Nat → Pc) (t : List Value) (k j : Nat) (hk : k < 4) (hj : j < 135) : (repArrF me n p x f t)[139 + k * 135 + j]? = (f k).cells[j]? := by
  have e1 : (([Value.int .i64 (me : Int), Value.int .i64 (n : Int)] ++ p.cells) ++ [Value.int .i64 (x.had : Int), Value.string ⟨x.log.toArray⟩]).length = 139 := by simp [Pc.len]
  unfold repArrF
  rw [List.getElem?_toArray, ← List.append_assoc, List.getElem?_append_right (by rw [e1]; omega), e1, show 139 + k * 135 + j - 139 = k * 135 + j by omega, List.getElem?_append_left (by rw [recsF_len]; omega), recsF_at _ _ _ hk hj]
theorem repF_tail (me n : Nat) (p : Pc) (x : Ext) (f : Nat → Pc) (t : List Value) (k : Nat) : (repArrF me n p x f t)[679 + k]? = t[k]? := by
  have e1 : (([Value.int .i64 (me : Int), Value.int .i64 (n : Int)] ++ p.cells) ++ [Value.int .i64 (x.had : Int), Value.string ⟨x.log.toArray⟩]).length = 139 := by simp [Pc.len]
  unfold repArrF
  rw [List.getElem?_toArray, ← List.append_assoc, List.getElem?_append_right (by rw [e1]; omega), e1, show 679 + k - 139 = 540 + k by omega, List.getElem?_append_right (by rw [recsF_len]; omega), recsF_len, show 540 + k - 540 = k by omega]

/-- One of what is remembered, written over. -/
theorem repF_put (me n : Nat) (p : Pc) (x : Ext) (f : Nat → Pc) (t : List Value) (k : Nat) (hk : k < 4) (q : Pc) : splice (repArrF me n p x f t) (139 + k * 135) q.cells = repArrF me n p x (fun j => if j = k then q else f j) t := by
  refine Array.ext_getElem? fun j => ?_
  rw [splice_at _ _ _ _ (by rw [repF_size, Pc.len]; omega), Pc.len]
  by_cases h1 : j < 139
  · rw [if_neg (by omega), repF_lo _ _ _ _ _ _ _ h1, repF_lo _ _ _ _ _ _ _ h1]
  · by_cases h2 : j < 679
    · obtain ⟨i, m, hi, hm, rfl⟩ : ∃ i m, i < 4 ∧ m < 135 ∧ j = 139 + i * 135 + m := ⟨(j - 139) / 135, (j - 139) % 135, by omega, by omega, by omega⟩
      rw [repF_rec _ _ _ _ (fun j => if j = k then q else f j) _ _ _ hi hm]
      by_cases e : i = k
      · subst e
        rw [if_pos (by omega), show 139 + i * 135 + m - (139 + i * 135) = m by omega]; simp
      · rw [if_neg (by omega), repF_rec _ _ _ _ _ _ _ _ hi hm]; simp [e]
    · obtain ⟨i, rfl⟩ : ∃ i, j = 679 + i := ⟨j - 679, by omega⟩
      rw [if_neg (by omega), repF_tail, repF_tail]
/-- One of what stands behind, written over. -/
theorem repF_set (me n : Nat) (p : Pc) (x : Ext) (f : Nat → Pc) (t : List Value) (k : Nat) (v : Value) (hk : k < t.length) : (repArrF me n p x f t).setIfInBounds (679 + k) v = repArrF me n p x f (t.set k v) := by
  refine Array.ext_getElem? fun j => ?_
  rw [Array.getElem?_setIfInBounds]
  by_cases h1 : j < 139
  · rw [if_neg (by omega), repF_lo _ _ _ _ _ _ _ h1, repF_lo _ _ _ _ _ _ _ h1]
  · by_cases h2 : j < 679
    · obtain ⟨i, m, hi, hm, rfl⟩ : ∃ i m, i < 4 ∧ m < 135 ∧ j = 139 + i * 135 + m := ⟨(j - 139) / 135, (j - 139) % 135, by omega, by omega, by omega⟩
      rw [if_neg (by omega), repF_rec _ _ _ _ _ _ _ _ hi hm, repF_rec _ _ _ _ _ _ _ _ hi hm]
    · obtain ⟨i, rfl⟩ : ∃ i, j = 679 + i := ⟨j - 679, by omega⟩
      by_cases e : k = i
      · subst e
        rw [if_pos rfl, if_pos (by rw [repF_size]; omega), repF_tail, List.getElem?_set_self hk]
      · rw [if_neg (by omega), repF_tail, repF_tail, List.getElem?_set_ne e]

theorem rowOf_repF {w : World} {b me n : Nat} {p : Pc} {x : Ext} {f : Nat → Pc} {tl : List Value} {t : TypeId} (h : w.heap[b]? = some (.cells (repArrF me n p x f tl) t)) (k : Nat) (hk : k < 4) : rowOf w b (139 + k * 135) = (f k).arr := by
  have : ((List.range 135).map fun j => (w.cell? ⟨b, 139 + k * 135 + j, none⟩).getD undef) = (f k).cells := by
    refine List.ext_getElem? fun j => ?_
    by_cases hj : j < 135
    · rw [List.getElem?_map, List.getElem?_range hj, Option.map_some, blk_cell h, repF_rec _ _ _ _ _ _ _ _ hk hj, List.getElem?_eq_getElem (by rw [Pc.len]; exact hj)]; rfl
    · rw [List.getElem?_eq_none (by simp; omega), List.getElem?_eq_none (by rw [Pc.len]; omega)]
  unfold rowOf Pc.arr; rw [this]
theorem Has_repF {w : World} {b me n : Nat} {p : Pc} {x : Ext} {f : Nat → Pc} {tl : List Value} {t : TypeId} (h : w.heap[b]? = some (.cells (repArrF me n p x f tl) t)) (k : Nat) (hk : k < 4) : Has w b (139 + k * 135) := Has_of h (by rw [repF_size]; omega)
theorem HasW_repF {w : World} {b me n : Nat} {p : Pc} {x : Ext} {f : Nat → Pc} {tl : List Value} {t : TypeId} (h : w.heap[b]? = some (.cells (repArrF me n p x f tl) t)) (k : Nat) (hk : k < 4) : HasW w b (139 + k * 135) := HasW_of h (by rw [repF_size]; omega)
theorem put_repF {w : World} {b me n : Nat} {p q : Pc} {x : Ext} {f : Nat → Pc} {tl : List Value} {t : TypeId} (h : w.heap[b]? = some (.cells (repArrF me n p x f tl) t)) (k : Nat) (hk : k < 4) : (putRowAt w b (139 + k * 135) (.agg q.arr)).heap[b]? = some (.cells (repArrF me n p x (fun j => if j = k then q else f j) tl) t) := by
  show (w.setCells b (139 + k * 135) (q.arr.toList)).heap[b]? = _
  rw [show q.arr.toList = q.cells from by simp [Pc.arr], heap_setCells_self _ h, repF_put _ _ _ _ _ _ _ hk]
/-- What is remembered, moved up from a place on. -/
def shiftF (f : Nat → Pc) (k : Nat) : Nat → Pc := fun j => if j ≤ k then f j else f (j - 1)
theorem repF_congr (me n : Nat) (p : Pc) (x : Ext) (f g : Nat → Pc) (t : List Value) (h : ∀ j, j < 4 → f j = g j) : repArrF me n p x f t = repArrF me n p x g t := by
  unfold repArrF recsF
  rw [h 0 (by omega), h 1 (by omega), h 2 (by omega), h 3 (by omega)]
theorem repF_x (me n : Nat) (p : Pc) (x y : Ext) (f : Nat → Pc) (t : List Value) (h1 : x.had = y.had) (h2 : x.log = y.log) : repArrF me n p x f t = repArrF me n p y f t := by
  unfold repArrF; rw [h1, h2]
theorem shift_all (f : Nat → Pc) (j : Nat) (h : j < 4) : shiftF f 3 j = f j := by unfold shiftF; rw [if_pos (by omega)]
theorem shift_step (f : Nat → Pc) (k j : Nat) : (if j = k + 1 then f k else shiftF f (k + 1) j) = shiftF f k j := by
  unfold shiftF
  by_cases h : j = k + 1
  · subst h; rw [if_pos rfl, if_neg (by omega)]; rfl
  · rw [if_neg h]
    by_cases h2 : j ≤ k
    · rw [if_pos (by omega), if_pos h2]
    · rw [if_neg (by omega), if_neg h2]
theorem shift_at (f : Nat → Pc) (k : Nat) : shiftF f (k + 1) k = f k := by unfold shiftF; rw [if_pos (by omega)]
theorem shift_end (x : Ext) (q : Pc) (j : Nat) : (if j = 0 then q else shiftF x.lat 0 j) = ({ x with late := q :: x.late } : Ext).lat j := by
  cases j with
  | zero => rfl
  | succ j => simp [shiftF, Ext.lat]
end Go.Proofs.YtalaldfgjgpacaaGreatDoor
