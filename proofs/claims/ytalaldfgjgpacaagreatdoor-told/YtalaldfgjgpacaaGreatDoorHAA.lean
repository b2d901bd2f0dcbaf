import Derived.WalkKit
import Derived.WalkSpells
import Derived.WalkLawsBesides
import Derived.Deep.MidRow
import Derived.Deep.RegionHeld3
import Derived.Deep.DrawnRows
import Derived.Lib.EndianMore
import Derived.Shelf.Strconv.Itoa0
import Derived.Shelf.Strconv.Itoa1
import Derived.Shelf.LaysM
import Derived.Shelf.Strconv.Itoa2
import Derived.Shelf.Strconv.Itoa3
import Derived.Test.YtalaldfgjgpacaaGreatDoorProg
namespace Go.Proofs.YtalaldfgjgpacaaGreatDoor
set_option linter.unusedVariables false
set_option linter.unusedSimpArgs false
open Go.RowKit

/-- What a piece has of one dot. -/
structure Sl where
  known : Bool
  filled : Bool
  cart : Int
  item : Int
  value : Int

theorem Sl.ext' {a b : Sl} (h1 : a.known = b.known) (h2 : a.filled = b.filled) (h3 : a.cart = b.cart) (h4 : a.item = b.item) (h5 : a.value = b.value) : a = b := by
  cases a; cases b; simp_all

def Sl.zero : Sl := ⟨false, false, 0, 0, 0⟩

def Sl.cell (s : Sl) : Nat → Value
  | 0 => .bool s.known
  | 1 => .bool s.filled
  | 2 => .int .i64 s.cart
  | 3 => .int .i64 s.item
  | _ => .int .i64 s.value

def Sl.cells (s : Sl) : List Value := [.bool s.known, .bool s.filled, .int .i64 s.cart, .int .i64 s.item, .int .i64 s.value]

/-- A piece: a slot for each dot. -/
abbrev Pc : Type := Nat → Nat → Sl

def Pc.empty : Pc := fun _ _ => Sl.zero

def Pc.cells (p : Pc) : List Value := (List.range 135).map fun o => (p (o / 45) (o % 45 / 5)).cell (o % 5)

def Pc.arr (p : Pc) : Array Value := p.cells.toArray

theorem Pc.len (p : Pc) : p.cells.length = 135 := by simp [Pc.cells]

theorem Pc.size (p : Pc) : p.arr.size = 135 := by simp [Pc.arr, Pc.len]

theorem Pc.at (p : Pc) (o : Nat) (h : o < 135) : p.arr[o]? = some ((p (o / 45) (o % 45 / 5)).cell (o % 5)) := by
  simp [Pc.arr, Pc.cells, h]

theorem Pc.atRIK (p : Pc) (r i k : Nat) (hr : r < 3) (hi : i < 9) (hk : k < 5) : p.arr[r * 45 + i * 5 + k]? = some ((p r i).cell k) := by
  rw [Pc.at p _ (by omega)]
  have e1 : (r * 45 + i * 5 + k) / 45 = r := by omega
  have e2 : (r * 45 + i * 5 + k) % 45 / 5 = i := by omega
  have e3 : (r * 45 + i * 5 + k) % 5 = k := by omega
  rw [e1, e2, e3]

theorem Pc.one (p : Pc) : ∀ v ∈ p.cells, v.oneCell' = true := by
  intro v hv
  simp only [Pc.cells, List.mem_map, List.mem_range] at hv
  obtain ⟨o, _, rfl⟩ := hv
  have h5 : o % 5 < 5 := Nat.mod_lt _ (by decide)
  generalize o % 5 = k at *
  match k, h5 with
  | 0, _ => rfl
  | 1, _ => rfl
  | 2, _ => rfl
  | 3, _ => rfl
  | 4, _ => rfl

theorem Pc.ext_arr {p q : Pc} (h : ∀ r i, r < 3 → i < 9 → p r i = q r i) : p.arr = q.arr := by
  have : p.cells = q.cells := by
    unfold Pc.cells
    refine List.map_congr_left fun o ho => ?_
    have ho' : o < 135 := by simpa using ho
    rw [h _ _ (by omega) (by omega)]
  unfold Pc.arr; rw [this]

def Sl.same (a b : Sl) : Bool := a.known == b.known && (a.filled == b.filled && (a.cart == b.cart && (a.item == b.item && a.value == b.value)))

def joinSl (a b : Sl) : Sl :=
  if a.known then (if !b.known || Sl.same a b then a else ⟨true, false, 0, 0, 0⟩) else b

def Pc.join (p q : Pc) : Pc := fun r i => joinSl (p r i) (q r i)

def Sl.isOf (s : Sl) (c it : Int) : Bool := s.filled && (s.cart == c && s.item == it)

/-- 'Below' at the heap's own size. -/
def Blw (a w : World) : Prop := Below a.heap.size a w

theorem Blw.rfl (a : World) : Blw a a := Below.refl _ _
theorem Blw.al {a w : World} (h : Blw a w) (o : Obj) : Blw a (w.alloc o) := Below.alloc h h.size o
theorem Blw.dr {a w : World} (h : Blw a w) : Blw a w.drew := Below.drew h
theorem Blw.sc {a w : World} (h : Blw a w) (b o : Nat) (v : Value) (hb : a.heap.size ≤ b) : Blw a (w.setCell ⟨b, o, none⟩ v) := Below.setCell h hb v
theorem Blw.scs {a w : World} (h : Blw a w) (b o : Nat) (vs : List Value) (hb : a.heap.size ≤ b) : Blw a (w.setCells b o vs) := Below.trans h (Go.Lib.below_setCells_w hb vs o w)
theorem Blw.tr {a b c : World} (h : Blw a b) (k : Blw b c) : Blw a c := Below.trans h (Below.mono k h.size)
theorem Blw.sz {a w : World} (h : Blw a w) : a.heap.size ≤ w.heap.size := h.size
theorem Blw.bk {a w : World} (h : Blw a w) (b : Nat) (hb : b < a.heap.size) : w.heap[b]? = a.heap[b]? := h.block b hb

theorem bcell {W w1 : World} (hb : Blw W w1) : (∀ b o, b < W.heap.size → w1.cell? ⟨b, o, none⟩ = W.cell? ⟨b, o, none⟩) ∧ (∀ b o, b < W.heap.size → w1.frozen? ⟨b, o, none⟩ = W.frozen? ⟨b, o, none⟩) :=
  ⟨fun b o h => Below.cell hb (p := ⟨b, o, none⟩) h, fun b o h => Below.frozen hb (p := ⟨b, o, none⟩) h⟩

theorem hid {p : Prop} (h : p) : Hid p := h

theorem blk_cell {w : World} {b : Nat} {C : Array Value} {t : TypeId} {fr : Nat × Nat} (h : w.heap[b]? = some (.cells C t fr)) (o : Nat) : w.cell? ⟨b, o, none⟩ = C[o]? := by
  simp [World.cell?, h]
theorem blk_frozen {w : World} {b : Nat} {C : Array Value} {t : TypeId} (h : w.heap[b]? = some (.cells C t)) (o : Nat) : w.frozen? ⟨b, o, none⟩ = false := by
  simp [World.frozen?, h]

/-- A row written over from a place on. -/
def splice (C : Array Value) : Nat → List Value → Array Value
  | _, [] => C
  | o, v :: r => splice (C.setIfInBounds o v) (o + 1) r

theorem splice_size (vs : List Value) : ∀ (C : Array Value) (o : Nat), (splice C o vs).size = C.size := by
  induction vs with
  | nil => intro C o; rfl
  | cons v r ih => intro C o; simp [splice, ih]

theorem splice_at (vs : List Value) : ∀ (C : Array Value) (o j : Nat), o + vs.length ≤ C.size → (splice C o vs)[j]? = if o ≤ j ∧ j < o + vs.length then vs[j - o]? else C[j]? := by
  induction vs with
  | nil => intro C o j _; simp [splice]; omega
  | cons v r ih =>
    intro C o j h
    simp only [List.length_cons] at h
    simp only [splice]
    rw [ih _ _ _ (by simp; omega)]
    by_cases h1 : o + 1 ≤ j ∧ j < o + 1 + r.length
    · rw [if_pos h1, if_pos (by simp; omega)]
      have : j - o = (j - (o + 1)) + 1 := by omega
      rw [this]; simp
    · rw [if_neg h1]
      by_cases h2 : j = o
      · subst h2
        rw [if_pos (by simp), Array.getElem?_setIfInBounds, if_pos rfl, if_pos (by omega)]
        simp
      · rw [if_neg (by simp; omega)]
        rw [Array.getElem?_setIfInBounds]; rw [if_neg (by omega)]

theorem heap_setCell_self {w : World} {b o : Nat} {C : Array Value} {t : TypeId} (h : w.heap[b]? = some (.cells C t)) (v : Value) : (w.setCell ⟨b, o, none⟩ v).heap[b]? = some (.cells (C.setIfInBounds o v) t) := by
  simp [World.setCell, Array.getElem?_modify, h]

theorem heap_setCells_self (vs : List Value) : ∀ {w : World} {b o : Nat} {C : Array Value} {t : TypeId}, w.heap[b]? = some (.cells C t) → (w.setCells b o vs).heap[b]? = some (.cells (splice C o vs) t) := by
  induction vs with
  | nil => intro w b o C t h; exact h
  | cons v r ih => intro w b o C t h; exact ih (heap_setCell_self h v)

theorem heap_setCells_ne (vs : List Value) : ∀ {w : World} {b b' o : Nat}, b' ≠ b → (w.setCells b o vs).heap[b']? = w.heap[b']? := by
  induction vs with
  | nil => intro w b b' o h; rfl
  | cons v r ih => intro w b b' o h; exact (ih h).trans (Below.heap_setCell w ⟨b, o, none⟩ v b' h)

theorem size_setCells (vs : List Value) : ∀ {w : World} {b o : Nat}, (w.setCells b o vs).heap.size = w.heap.size := by
  induction vs with
  | nil => intro w b o; rfl
  | cons v r ih => intro w b o; simp [World.setCells, ih]

theorem run_storeCells_blk {P : Program} {w : World} {b o : Nat} {C : Array Value} {t : TypeId} (h : w.heap[b]? = some (.cells C t)) (vs : List Value) (hs : o + vs.length ≤ C.size) (h1 : ∀ v ∈ vs, v.oneCell' = true) :
    (storeCells ⟨b, o, none⟩ vs).run P w = .ok () (w.setCells b o vs) :=
  run_storeCells_cells b o vs 0 w (fun j hj => by rw [blk_cell h]; simp; omega) (fun j hj => blk_frozen h _) h1

theorem Sl.one (s : Sl) : ∀ v ∈ s.cells, v.oneCell' = true := by
  intro v hv
  simp only [Sl.cells, List.mem_cons, List.not_mem_nil, or_false] at hv
  rcases hv with rfl | rfl | rfl | rfl | rfl <;> rfl

theorem Sl.cells_at (s : Sl) (k : Nat) (h : k < 5) : s.cells[k]? = some (s.cell k) := by
  match k, h with
  | 0, _ => rfl
  | 1, _ => rfl
  | 2, _ => rfl
  | 3, _ => rfl
  | 4, _ => rfl

def Pc.put (p : Pc) (k m : Nat) (s : Sl) : Pc := fun r i => if r = k ∧ i = m then s else p r i

theorem Pc.splice_slot (p : Pc) (k m : Nat) (hk : k < 3) (hm : m < 9) (s : Sl) : splice p.arr (k * 45 + m * 5) s.cells = (p.put k m s).arr := by
  have hl : s.cells.length = 5 := rfl
  refine Array.ext_getElem? fun j => ?_
  rw [splice_at _ _ _ _ (by rw [Pc.size, hl]; omega), hl]
  by_cases hj : j < 135
  · rw [Pc.at _ _ hj, Pc.at _ _ hj]
    by_cases h : k * 45 + m * 5 ≤ j ∧ j < k * 45 + m * 5 + 5
    · rw [if_pos h, Sl.cells_at _ _ (by omega)]
      have e1 : j / 45 = k := by omega
      have e2 : j % 45 / 5 = m := by omega
      have e3 : j - (k * 45 + m * 5) = j % 5 := by omega
      rw [e1, e2, e3]; simp [Pc.put]
    · rw [if_neg h]
      unfold Pc.put
      rw [if_neg (by omega)]
  · rw [if_neg (by omega)]
    rw [Array.getElem?_eq_none (by rw [Pc.size]; omega), Array.getElem?_eq_none (by rw [Pc.size]; omega)]

theorem cells5 {p : Pc} {w : World} {b : Nat} {t : TypeId} (h : w.heap[b]? = some (.cells p.arr t)) (k m : Nat) (hk : k < 3) (hm : m < 9) :
    w.cell? ⟨b, k * 45 + m * 5, none⟩ = some (.bool (p k m).known) ∧ w.cell? ⟨b, k * 45 + m * 5 + 1, none⟩ = some (.bool (p k m).filled) ∧ w.cell? ⟨b, k * 45 + m * 5 + 2, none⟩ = some (.int .i64 (p k m).cart) ∧
    w.cell? ⟨b, k * 45 + m * 5 + 3, none⟩ = some (.int .i64 (p k m).item) ∧ w.cell? ⟨b, k * 45 + m * 5 + 4, none⟩ = some (.int .i64 (p k m).value) := by
  refine ⟨?_, ?_, ?_, ?_, ?_⟩ <;> rw [blk_cell h]
  · exact Pc.atRIK p k m 0 hk hm (by omega)
  · exact Pc.atRIK p k m 1 hk hm (by omega)
  · exact Pc.atRIK p k m 2 hk hm (by omega)
  · exact Pc.atRIK p k m 3 hk hm (by omega)
  · exact Pc.atRIK p k m 4 hk hm (by omega)

/-- What is joined behind some slots. -/
def partly (p q : Pc) (k m : Nat) : Pc := fun r i => if r < k ∨ r = k ∧ i < m then joinSl (p r i) (q r i) else Sl.zero

theorem partly_put (p q : Pc) (k m : Nat) : ((partly p q k m).put k m (joinSl (p k m) (q k m))).arr = (partly p q k (m + 1)).arr := by
  refine Pc.ext_arr fun r i hr hi => ?_
  unfold Pc.put partly
  by_cases h : r = k ∧ i = m
  · obtain ⟨rfl, rfl⟩ := h; simp
  · rw [if_neg h]
    by_cases h2 : r < k ∨ r = k ∧ i < m
    · rw [if_pos h2, if_pos (by omega)]
    · rw [if_neg h2, if_neg (by omega)]

theorem partly_row (p q : Pc) (k : Nat) : (partly p q k 9).arr = (partly p q (k + 1) 0).arr := by
  refine Pc.ext_arr fun r i hr hi => ?_
  unfold partly
  by_cases h2 : r < k ∨ r = k ∧ i < 9
  · rw [if_pos h2, if_pos (by omega)]
  · rw [if_neg h2, if_neg (by omega)]

theorem partly_all (p q : Pc) : (partly p q 3 0).arr = (p.join q).arr := by
  refine Pc.ext_arr fun r i hr hi => ?_
  unfold partly Pc.join
  rw [if_pos (by omega)]

theorem partly_none (p q : Pc) : (partly p q 0 0).arr = Pc.empty.arr := by
  refine Pc.ext_arr fun r i hr hi => ?_
  unfold partly Pc.empty
  rw [if_neg (by omega)]

theorem splice_all (C : Array Value) (vs : List Value) (h : vs.length = C.size) : splice C 0 vs = vs.toArray := by
  refine Array.ext_getElem? fun j => ?_
  rw [splice_at _ _ _ _ (by omega)]
  by_cases hj : j < vs.length
  · rw [if_pos (by omega)]; simp
  · rw [if_neg (by omega), Array.getElem?_eq_none (by omega)]; simp; omega

theorem cell_setCells_ne {w : World} {b b' o : Nat} (vs : List Value) (o' : Nat) (h : b' ≠ b) : (w.setCells b o vs).cell? ⟨b', o', none⟩ = w.cell? ⟨b', o', none⟩ :=
  World.cell?_setCells_out b vs o w ⟨b', o', none⟩ (fun e _ => absurd e h)

theorem hp_new (w : World) (o : Obj) : (w.alloc o).heap[w.heap.size]? = some o := heap_alloc_new w o
theorem hp_old {w : World} {b : Nat} {x : Option Obj} (o : Obj) (hb : b < w.heap.size) (h : w.heap[b]? = x) : (w.alloc o).heap[b]? = x := by
  rw [Below.heap_alloc w o b hb, h]

/-- The store of a whole row, over a whole block. -/
theorem wpList_store_blk {P : Program} {ops : Array Oper} {rest : List Oper} {op : Oper} {a : Act} {w : World} {Q : Exit → Act → World → Prop} (hgd : op.guard = none) (ty : TypeId) (x y : Operand) (ho : op.op = .store ty x y)
    (b o : Nat) (vs : List Value) (hx : a.eval x = .pointer (some ⟨b, o, none⟩)) (hy : a.eval y = .agg vs.toArray) (C : Array Value) (t : TypeId) (hg : w.heap[b]? = some (.cells C t)) (hs : o + vs.length ≤ C.size)
    (hi : (P.info? ty).map (·.size) = some vs.length) (h1 : ∀ v ∈ vs, v.oneCell' = true) (h : wpList P ops Q rest (a.put op.dst undef) (w.setCells b o vs)) : wpList P ops Q (op :: rest) a w :=
  wpList_store_mid hgd ty x y ho b o vs.toArray hx hy (fun j hj => ⟨by rw [blk_cell hg]; simp at hj ⊢; omega, blk_frozen hg _⟩) (by simpa using hi) (all_oneCell_toArray h1) (by simpa using h)

def cnt (kn : Nat → Bool) : Nat → Nat
  | 0 => 0
  | i + 1 => cnt kn i + (if kn i then 1 else 0)

theorem cnt_le (kn : Nat → Bool) (n : Nat) : cnt kn n ≤ n := by
  induction n with
  | zero => simp [cnt]
  | succ n ih => simp only [cnt]; split <;> omega

def Pc.count (p : Pc) (r : Int) : Nat := if 0 ≤ r ∧ r < 3 then cnt (fun i => (p r.toNat i).known) 9 else 0

theorem Pc.count_le (p : Pc) (r : Int) : p.count r ≤ 9 := by
  unfold Pc.count; split
  · exact cnt_le _ _
  · omega

/-- A digit's byte; a cart's; an item's. -/
def dig (d : Nat) : UInt8 := UInt8.ofNat (48 + d)
def cartB (c : Nat) : UInt8 := UInt8.ofNat (97 + c)
def itemB (c : Nat) : UInt8 := UInt8.ofNat (65 + c)

theorem ret_str {a b : ByteArray} (h : a = b) : Ending.returned (.string a) = .returned (.string b) := by rw [h]

/-- A value as text: a sign and two digits. -/
def valL (v : Int) : List UInt8 := [if v < 0 then 45 else 43, dig (v.natAbs / 10), dig (v.natAbs % 10)]


/-- The slots in a row: r * 9 + i. -/
def Pc.nth (p : Pc) (n : Nat) : Sl := p (n / 9) (n % 9)

theorem Pc.nth_ri (p : Pc) (r i : Nat) (hi : i < 9) : p.nth (r * 9 + i) = p r i := by
  unfold Pc.nth
  have e1 : (r * 9 + i) / 9 = r := by omega
  have e2 : (r * 9 + i) % 9 = i := by omega
  rw [e1, e2]

/-- Every filled slot is known and holds an entry that there can be. -/
def Pc.ok (p : Pc) : Prop := ∀ r i, r < 3 → i < 9 → (p r i).filled = true → (p r i).known = true ∧ 0 ≤ (p r i).cart ∧ (p r i).cart < 3 ∧ 0 ≤ (p r i).item ∧ (p r i).item < 4 ∧ -99 ≤ (p r i).value ∧ (p r i).value ≤ 99

def Sl.dot : Sl := ⟨true, false, 0, 0, 0⟩

def Pc.dotsTo (p : Pc) (c it : Int) (n : Nat) : Pc := fun r i => if r * 9 + i < n ∧ (p r i).isOf c it = true then Sl.dot else Sl.zero

def Pc.dotsOf (p : Pc) (c it : Int) : Pc := fun r i => if (p r i).isOf c it = true then Sl.dot else Sl.zero

theorem dotsTo_zero (p : Pc) (c it : Int) : (p.dotsTo c it 0).arr = Pc.empty.arr := by
  refine Pc.ext_arr fun r i _ _ => ?_
  unfold Pc.dotsTo Pc.empty; rw [if_neg (by omega)]

theorem dotsTo_all (p : Pc) (c it : Int) : (p.dotsTo c it 27).arr = (p.dotsOf c it).arr := by
  refine Pc.ext_arr fun r i hr hi => ?_
  unfold Pc.dotsTo Pc.dotsOf
  by_cases h : (p r i).isOf c it = true
  · rw [if_pos ⟨by omega, h⟩, if_pos h]
  · rw [if_neg (fun x => h x.2), if_neg h]

theorem dotsTo_not (p : Pc) (c it : Int) (k m : Nat) (h : (p k m).isOf c it = false) (hm : m < 9) : (p.dotsTo c it (k * 9 + m)).arr = (p.dotsTo c it (k * 9 + (m + 1))).arr := by
  refine Pc.ext_arr fun r i hr hi => ?_
  unfold Pc.dotsTo
  by_cases e : r = k ∧ i = m
  · obtain ⟨rfl, rfl⟩ := e; rw [h]; simp
  · by_cases h2 : r * 9 + i < k * 9 + m
    · have h3 : r * 9 + i < k * 9 + (m + 1) := by omega
      simp only [h2, h3]
    · have h3 : ¬ r * 9 + i < k * 9 + (m + 1) := by omega
      simp only [h2, h3]

/-- The slot's first cell set to true. -/
theorem set_known (p : Pc) (k m : Nat) (hk : k < 3) (hm : m < 9) : p.arr.setIfInBounds (k * 45 + m * 5) (.bool true) = (p.put k m { p k m with known := true }).arr := by
  refine Array.ext_getElem? fun j => ?_
  rw [Array.getElem?_setIfInBounds]
  by_cases hj : j < 135
  · rw [Pc.at (p.put k m _) _ hj]
    by_cases h : k * 45 + m * 5 = j
    · rw [if_pos h, if_pos (by rw [Pc.size]; omega)]
      have e1 : j / 45 = k := by omega
      have e2 : j % 45 / 5 = m := by omega
      have e3 : j % 5 = 0 := by omega
      rw [e1, e2, e3]; simp [Pc.put, Sl.cell]
    · rw [if_neg h, Pc.at _ _ hj]
      unfold Pc.put
      by_cases h2 : j / 45 = k ∧ j % 45 / 5 = m
      · rw [if_pos h2]
        obtain ⟨h3, h4⟩ := h2
        have h5 : j % 5 ≠ 0 := by omega
        have h6 : j % 5 < 5 := by omega
        rw [h3, h4]
        generalize j % 5 = q at *
        match q, h5, h6 with
        | 1, _, _ => rfl
        | 2, _, _ => rfl
        | 3, _, _ => rfl
        | 4, _, _ => rfl
      · rw [if_neg h2]
  · have h1 : ¬ (k * 45 + m * 5 = j) := by omega
    rw [if_neg h1, Array.getElem?_eq_none (by rw [Pc.size]; omega), Array.getElem?_eq_none (by rw [Pc.size]; omega)]

theorem dotsTo_yes (p : Pc) (c it : Int) (k m : Nat) (h : (p k m).isOf c it = true) (hm : m < 9) (hk : k < 3) : (p.dotsTo c it (k * 9 + m)).arr.setIfInBounds (k * 45 + m * 5) (.bool true) = (p.dotsTo c it (k * 9 + (m + 1))).arr := by
  rw [set_known _ _ _ hk hm]
  refine Pc.ext_arr fun r i hr hi => ?_
  unfold Pc.put Pc.dotsTo
  by_cases e : r = k ∧ i = m
  · obtain ⟨rfl, rfl⟩ := e
    rw [if_pos ⟨rfl, rfl⟩, if_neg (by omega), if_pos ⟨by omega, h⟩]
    rfl
  · rw [if_neg e]
    by_cases h2 : r * 9 + i < k * 9 + m
    · have h3 : r * 9 + i < k * 9 + (m + 1) := by omega
      simp only [h2, h3]
    · have h3 : ¬ r * 9 + i < k * 9 + (m + 1) := by omega
      simp only [h2, h3]

/-- The sum of the values, and whether there is one. -/
def Pc.sumTo (p : Pc) (c it : Int) : Nat → Int
  | 0 => 0
  | n + 1 => p.sumTo c it n + (if (p.nth n).isOf c it then (p.nth n).value else 0)
def Pc.anyTo (p : Pc) (c it : Int) : Nat → Bool
  | 0 => false
  | n + 1 => p.anyTo c it n || (p.nth n).isOf c it

theorem sumTo_bd (p : Pc) (hp : p.ok) (c it : Int) (n : Nat) (hn : n ≤ 27) : -(99 * n : Int) ≤ p.sumTo c it n ∧ p.sumTo c it n ≤ (99 * n : Int) := by
  induction n with
  | zero => simp [Pc.sumTo]
  | succ n ih =>
    have := ih (by omega)
    simp only [Pc.sumTo]
    have hs := hp (n / 9) (n % 9) (by omega) (by omega)
    by_cases h : (p.nth n).isOf c it = true
    · rw [if_pos h]
      have hf : (p (n / 9) (n % 9)).filled = true := by
        simp only [Sl.isOf, Bool.and_eq_true] at h; exact h.1
      have h2 := hs hf
      have : (p.nth n).value = (p (n / 9) (n % 9)).value := rfl
      omega
    · rw [if_neg h]; omega

/-- An entry as text. -/
def Sl.text (s : Sl) (r n : Nat) : List UInt8 := [cartB s.cart.toNat, itemB s.item.toNat, dig r, dig n] ++ valL s.value

def Pc.textTo (p : Pc) (c it : Int) : Nat → List UInt8
  | 0 => []
  | n + 1 => p.textTo c it n ++ (if (p.nth n).isOf c it then (p.nth n).text (n / 9) (n % 9 + 1) else [])

theorem textTo_len (p : Pc) (c it : Int) (n : Nat) : (p.textTo c it n).length ≤ 7 * n := by
  induction n with
  | zero => simp [Pc.textTo]
  | succ n ih =>
    simp only [Pc.textTo, List.length_append]
    split
    · simp [Sl.text, valL]; omega
    · simp; omega

end Go.Proofs.YtalaldfgjgpacaaGreatDoor

namespace Go.Proofs
open Go.Shelf
def Tryz.laysM171_ren : Go.Shelf.Ren := ⟨fun | 171 => 80 | 243 => 132 | 246 => 154 | 283 => 163 | 284 => 164 | 285 => 165 | 286 => 166 | 129 => 168 | 317 => 167 | 318 => 169 | 319 => 170 | 320 => 171 | 337 => 172 | 338 => 173 | n => n, fun | 3 => 3 | 9 => 9 | 2 => 2 | 4 => 4 | 171 => 165 | 0 => 0 | 53 => 166 | 37 => 131 | 5 => 5 | 173 => 169 | 212 => 172 | 51 => 173 | 20 => 20 | 213 => 174 | 46 => 175 | 232 => 178 | 233 => 179 | n => n, fun | 17 => 0 | 18 => 1 | 19 => 2 | n => n⟩
theorem Tryz.laysM171 : Go.Proofs.LaysM.n171 Tryz.prog Tryz.laysM171_ren := {
  mixed := by kernel_rfl
  f129 := Tryz.func168.trans (congrArg some (by kernel_rfl))
  f171 := Tryz.func80.trans (congrArg some (by kernel_rfl))
  f243 := Tryz.func132.trans (congrArg some (by kernel_rfl))
  f246 := Tryz.func154.trans (congrArg some (by kernel_rfl))
  f283 := Tryz.func163.trans (congrArg some (by kernel_rfl))
  f284 := Tryz.func164.trans (congrArg some (by kernel_rfl))
  f285 := Tryz.func165.trans (congrArg some (by kernel_rfl))
  f286 := Tryz.func166.trans (congrArg some (by kernel_rfl))
  f317 := Tryz.func167.trans (congrArg some (by kernel_rfl))
  f318 := Tryz.func169.trans (congrArg some (by kernel_rfl))
  f319 := Tryz.func170.trans (congrArg some (by kernel_rfl))
  f320 := Tryz.func171.trans (congrArg some (by kernel_rfl))
  f337 := Tryz.func172.trans (congrArg some (by kernel_rfl))
  f338 := Tryz.func173.trans (congrArg some (by kernel_rfl))
  t0 := Tryz.underlying0
  a0 := Tryz.isAgg0
  z0 := Tryz.sizeOf0
  v0 := Tryz.zeroValue0
  t2 := Tryz.underlying2
  a2 := Tryz.isAgg2
  z2 := Tryz.sizeOf2
  v2 := Tryz.zeroValue2
  t3 := Tryz.underlying3
  a3 := Tryz.isAgg3
  z3 := Tryz.sizeOf3
  v3 := Tryz.zeroValue3
  t4 := Tryz.underlying4
  a4 := Tryz.isAgg4
  z4 := Tryz.sizeOf4
  v4 := Tryz.zeroValue4
  t5 := Tryz.underlying5
  a5 := Tryz.isAgg5
  z5 := Tryz.sizeOf5
  v5 := Tryz.zeroValue5
  t9 := Tryz.underlying9
  a9 := Tryz.isAgg9
  z9 := Tryz.sizeOf9
  v9 := Tryz.zeroValue9
  t20 := Tryz.underlying20
  a20 := Tryz.isAgg20
  z20 := Tryz.sizeOf20
  v20 := Tryz.zeroValue20
  t37 := Tryz.underlying131
  a37 := Tryz.isAgg131
  z37 := Tryz.sizeOf131
  v37 := Tryz.zeroValue131
  t46 := Tryz.underlying175
  a46 := Tryz.isAgg175
  z46 := Tryz.sizeOf175
  v46 := Tryz.zeroValue175
  t51 := Tryz.underlying173
  a51 := Tryz.isAgg173
  z51 := Tryz.sizeOf173
  v51 := Tryz.zeroValue173
  t53 := Tryz.underlying166
  a53 := Tryz.isAgg166
  z53 := Tryz.sizeOf166
  v53 := Tryz.zeroValue166
  t171 := Tryz.underlying165
  a171 := Tryz.isAgg165
  z171 := Tryz.sizeOf165
  v171 := Tryz.zeroValue165
  t173 := Tryz.underlying169
  a173 := Tryz.isAgg169
  z173 := Tryz.sizeOf169
  v173 := Tryz.zeroValue169
  t212 := Tryz.underlying172
  a212 := Tryz.isAgg172
  z212 := Tryz.sizeOf172
  v212 := Tryz.zeroValue172
  t213 := Tryz.underlying174
  a213 := Tryz.isAgg174
  z213 := Tryz.sizeOf174
  t232 := Tryz.underlying178
  a232 := Tryz.isAgg178
  z232 := Tryz.sizeOf178
  v232 := Tryz.zeroValue178
  t233 := Tryz.underlying179
  a233 := Tryz.isAgg179
  z233 := Tryz.sizeOf179
  v233 := Tryz.zeroValue179
  g17 := by kernel_rfl
  g18 := by kernel_rfl
  g19 := by kernel_rfl
  i0 := by kernel_rfl
  i2 := by kernel_rfl
  i3 := by kernel_rfl
  i4 := by kernel_rfl
  i5 := by kernel_rfl
  i9 := by kernel_rfl
  i20 := by kernel_rfl
  i37 := by kernel_rfl
  i46 := by kernel_rfl
  i51 := by kernel_rfl
  i53 := by kernel_rfl
  i171 := by kernel_rfl
  i173 := by kernel_rfl
  i212 := by kernel_rfl
  i232 := by kernel_rfl
  i233 := by kernel_rfl
  m17 := by kernel_rfl
  m18 := by kernel_rfl
  m19 := by kernel_rfl }
open Go.RowKit Go.Sort Go.Lib in
theorem Tryz.strconv_Itoa (n : Int) (h0 : -9223372036854775808 ≤ n) (h1 : n ≤ 9223372036854775807) (w : World) (htab : Lib.TabIs Tryz.prog w "internal/strconv.uint64pow10" .u64 Lib.pow10Tab) :
    Calls Tryz.prog 80 #[.int .i64 n] w fun e w' => e = .returned (.string ⟨(Lib.itoa n).toArray⟩) ∧ ∃ k os, w' = grow (w.drewN k) os := Any.strconv_Itoa Tryz.laysM171 n h0 h1 w htab
def Tryz.lays171_ren : Go.Shelf.Ren := ⟨fun | 171 => 80 | 243 => 132 | 246 => 154 | 283 => 163 | 284 => 164 | 285 => 165 | 286 => 166 | 129 => 168 | 317 => 167 | 318 => 169 | 319 => 170 | 320 => 171 | 337 => 172 | 338 => 173 | n => n, fun | 3 => 3 | 9 => 9 | 2 => 2 | 4 => 4 | 171 => 165 | 0 => 0 | 53 => 166 | 37 => 131 | 5 => 5 | 173 => 169 | 212 => 172 | 51 => 173 | 20 => 20 | 213 => 174 | 46 => 175 | 232 => 178 | 233 => 179 | n => n, fun | 17 => 0 | 18 => 1 | 19 => 2 | n => n⟩
theorem Tryz.lays171 : Go.Proofs.Lays.n171 Tryz.prog Tryz.lays171_ren := {
  mixed := by kernel_rfl
  f129 := Tryz.func168.trans (congrArg some (by kernel_rfl))
  f171 := Tryz.func80.trans (congrArg some (by kernel_rfl))
  f243 := Tryz.func132.trans (congrArg some (by kernel_rfl))
  f246 := Tryz.func154.trans (congrArg some (by kernel_rfl))
  f283 := Tryz.func163.trans (congrArg some (by kernel_rfl))
  f284 := Tryz.func164.trans (congrArg some (by kernel_rfl))
  f285 := Tryz.func165.trans (congrArg some (by kernel_rfl))
  f286 := Tryz.func166.trans (congrArg some (by kernel_rfl))
  f317 := Tryz.func167.trans (congrArg some (by kernel_rfl))
  f318 := Tryz.func169.trans (congrArg some (by kernel_rfl))
  f319 := Tryz.func170.trans (congrArg some (by kernel_rfl))
  f320 := Tryz.func171.trans (congrArg some (by kernel_rfl))
  f337 := Tryz.func172.trans (congrArg some (by kernel_rfl))
  f338 := Tryz.func173.trans (congrArg some (by kernel_rfl))
  t0 := Tryz.underlying0
  a0 := Tryz.isAgg0
  z0 := Tryz.sizeOf0
  v0 := Tryz.zeroValue0
  t2 := Tryz.underlying2
  a2 := Tryz.isAgg2
  z2 := Tryz.sizeOf2
  v2 := Tryz.zeroValue2
  t3 := Tryz.underlying3
  a3 := Tryz.isAgg3
  z3 := Tryz.sizeOf3
  v3 := Tryz.zeroValue3
  t4 := Tryz.underlying4
  a4 := Tryz.isAgg4
  z4 := Tryz.sizeOf4
  v4 := Tryz.zeroValue4
  t5 := Tryz.underlying5
  a5 := Tryz.isAgg5
  z5 := Tryz.sizeOf5
  v5 := Tryz.zeroValue5
  t9 := Tryz.underlying9
  a9 := Tryz.isAgg9
  z9 := Tryz.sizeOf9
  v9 := Tryz.zeroValue9
  t20 := Tryz.underlying20
  a20 := Tryz.isAgg20
  z20 := Tryz.sizeOf20
  v20 := Tryz.zeroValue20
  t37 := Tryz.underlying131
  a37 := Tryz.isAgg131
  z37 := Tryz.sizeOf131
  v37 := Tryz.zeroValue131
  t46 := Tryz.underlying175
  a46 := Tryz.isAgg175
  z46 := Tryz.sizeOf175
  v46 := Tryz.zeroValue175
  t51 := Tryz.underlying173
  a51 := Tryz.isAgg173
  z51 := Tryz.sizeOf173
  v51 := Tryz.zeroValue173
  t53 := Tryz.underlying166
  a53 := Tryz.isAgg166
  z53 := Tryz.sizeOf166
  v53 := Tryz.zeroValue166
  t171 := Tryz.underlying165
  a171 := Tryz.isAgg165
  z171 := Tryz.sizeOf165
  v171 := Tryz.zeroValue165
  t173 := Tryz.underlying169
  a173 := Tryz.isAgg169
  z173 := Tryz.sizeOf169
  v173 := Tryz.zeroValue169
  t212 := Tryz.underlying172
  a212 := Tryz.isAgg172
  z212 := Tryz.sizeOf172
  v212 := Tryz.zeroValue172
  t213 := Tryz.underlying174
  a213 := Tryz.isAgg174
  z213 := Tryz.sizeOf174
  t232 := Tryz.underlying178
  a232 := Tryz.isAgg178
  z232 := Tryz.sizeOf178
  v232 := Tryz.zeroValue178
  t233 := Tryz.underlying179
  a233 := Tryz.isAgg179
  z233 := Tryz.sizeOf179
  v233 := Tryz.zeroValue179
  g17 := by kernel_rfl
  g18 := by kernel_rfl
  g19 := by kernel_rfl }
open Go.RowKit Go.Sort Go.Lib in
theorem Tryz.strconv_Itoa_small (i : Nat) (hi : i < 100) (w : World) :
    Calls Tryz.prog 80 #[.int .i64 i] w fun e w' => e = .returned (.string ⟨(Lib.decDigits i).toArray⟩) ∧ w' = w := Any.strconv_Itoa_small Tryz.lays171 i hi w
end Go.Proofs
