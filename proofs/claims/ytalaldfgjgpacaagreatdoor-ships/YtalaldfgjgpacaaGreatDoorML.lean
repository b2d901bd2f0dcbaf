import Derived.WalkKit
import Derived.WalkSpells
import Derived.WalkLawsBesides
import Derived.Deep.MidRow
import Derived.Deep.RegionHeld3
import Derived.Deep.DrawnRows
import Derived.Lib.EndianMore
namespace Go.Proofs.YtalaldfgjgpacaaGreatDoor
set_option linter.unusedVariables false
set_option linter.unusedSimpArgs false
open Go.RowKit

/-- What a piece has of one dot. -/
structure Sl where
  known : Bool
  filled : Bool
  cart : Int
  item : Int
  value : Int

theorem Sl.ext' {a b : Sl} (h1 : a.known = b.known) (h2 : a.filled = b.filled) (h3 : a.cart = b.cart) (h4 : a.item = b.item) (h5 : a.value = b.value) : a = b := by
  cases a; cases b; simp_all

def Sl.zero : Sl := ⟨false, false, 0, 0, 0⟩

def Sl.cell (s : Sl) : Nat → Value
  | 0 => .bool s.known
  | 1 => .bool s.filled
  | 2 => .int .i64 s.cart
  | 3 => .int .i64 s.item
  | _ => .int .i64 s.value

def Sl.cells (s : Sl) : List Value := [.bool s.known, .bool s.filled, .int .i64 s.cart, .int .i64 s.item, .int .i64 s.value]

/-- A piece: a slot for each dot. -/
abbrev Pc : Type := Nat → Nat → Sl

def Pc.empty : Pc := fun _ _ => Sl.zero

def Pc.cells (p : Pc) : List Value := (List.range 135).map fun o => (p (o / 45) (o % 45 / 5)).cell (o % 5)

def Pc.arr (p : Pc) : Array Value := p.cells.toArray

theorem Pc.len (p : Pc) : p.cells.length = 135 := by simp [Pc.cells]

theorem Pc.size (p : Pc) : p.arr.size = 135 := by simp [Pc.arr, Pc.len]

theorem Pc.at (p : Pc) (o : Nat) (h : o < 135) : p.arr[o]? = some ((p (o / 45) (o % 45 / 5)).cell (o % 5)) := by
  simp [Pc.arr, Pc.cells, h]

theorem Pc.atRIK (p : Pc) (r i k : Nat) (hr : r < 3) (hi : i < 9) (hk : k < 5) : p.arr[r * 45 + i * 5 + k]? = some ((p r i).cell k) := by
  rw [Pc.at p _ (by omega)]
  have e1 : (r * 45 + i * 5 + k) / 45 = r := by omega
  have e2 : (r * 45 + i * 5 + k) % 45 / 5 = i := by omega
  have e3 : (r * 45 + i * 5 + k) % 5 = k := by omega
  rw [e1, e2, e3]

theorem Pc.one (p : Pc) : ∀ v ∈ p.cells, v.oneCell' = true := by
  intro v hv
  simp only [Pc.cells, List.mem_map, List.mem_range] at hv
  obtain ⟨o, _, rfl⟩ := hv
  have h5 : o % 5 < 5 := Nat.mod_lt _ (by decide)
  generalize o % 5 = k at *
  match k, h5 with
  | 0, _ => rfl
  | 1, _ => rfl
  | 2, _ => rfl
  | 3, _ => rfl
  | 4, _ => rfl

theorem Pc.ext_arr {p q : Pc} (h : ∀ r i, r < 3 → i < 9 → p r i = q r i) : p.arr = q.arr := by
  have : p.cells = q.cells := by
    unfold Pc.cells
    refine List.map_congr_left fun o ho => ?_
    have ho' : o < 135 := by simpa using ho
    rw [h _ _ (by omega) (by omega)]
  unfold Pc.arr; rw [this]

def Sl.same (a b : Sl) : Bool := a.known == b.known && (a.filled == b.filled && (a.cart == b.cart && (a.item == b.item && a.value == b.value)))

def joinSl (a b : Sl) : Sl :=
  if a.known then (if !b.known || Sl.same a b then a else ⟨true, false, 0, 0, 0⟩) else b

def Pc.join (p q : Pc) : Pc := fun r i => joinSl (p r i) (q r i)

def Sl.isOf (s : Sl) (c it : Int) : Bool := s.filled && (s.cart == c && s.item == it)

/-- 'Below' at the heap's own size. -/
def Blw (a w : World) : Prop := Below a.heap.size a w

theorem Blw.rfl (a : World) : Blw a a := Below.refl _ _
theorem Blw.al {a w : World} (h : Blw a w) (o : Obj) : Blw a (w.alloc o) := Below.alloc h h.size o
theorem Blw.dr {a w : World} (h : Blw a w) : Blw a w.drew := Below.drew h
theorem Blw.sc {a w : World} (h : Blw a w) (b o : Nat) (v : Value) (hb : a.heap.size ≤ b) : Blw a (w.setCell ⟨b, o, none⟩ v) := Below.setCell h hb v
theorem Blw.scs {a w : World} (h : Blw a w) (b o : Nat) (vs : List Value) (hb : a.heap.size ≤ b) : Blw a (w.setCells b o vs) := Below.trans h (Go.Lib.below_setCells_w hb vs o w)
theorem Blw.tr {a b c : World} (h : Blw a b) (k : Blw b c) : Blw a c := Below.trans h (Below.mono k h.size)
theorem Blw.sz {a w : World} (h : Blw a w) : a.heap.size ≤ w.heap.size := h.size
theorem Blw.bk {a w : World} (h : Blw a w) (b : Nat) (hb : b < a.heap.size) : w.heap[b]? = a.heap[b]? := h.block b hb

theorem bcell {W w1 : World} (hb : Blw W w1) : (∀ b o, b < W.heap.size → w1.cell? ⟨b, o, none⟩ = W.cell? ⟨b, o, none⟩) ∧ (∀ b o, b < W.heap.size → w1.frozen? ⟨b, o, none⟩ = W.frozen? ⟨b, o, none⟩) :=
  ⟨fun b o h => Below.cell hb (p := ⟨b, o, none⟩) h, fun b o h => Below.frozen hb (p := ⟨b, o, none⟩) h⟩

theorem hid {p : Prop} (h : p) : Hid p := h

theorem blk_cell {w : World} {b : Nat} {C : Array Value} {t : TypeId} {fr : Nat × Nat} (h : w.heap[b]? = some (.cells C t fr)) (o : Nat) : w.cell? ⟨b, o, none⟩ = C[o]? := by
  simp [World.cell?, h]
theorem blk_frozen {w : World} {b : Nat} {C : Array Value} {t : TypeId} (h : w.heap[b]? = some (.cells C t)) (o : Nat) : w.frozen? ⟨b, o, none⟩ = false := by
  simp [World.frozen?, h]

/-- A row written over from a place on. -/
def splice (C : Array Value) : Nat → List Value → Array Value
  | _, [] => C
  | o, v :: r => splice (C.setIfInBounds o v) (o + 1) r

theorem splice_size (vs : List Value) : ∀ (C : Array Value) (o : Nat), (splice C o vs).size = C.size := by
  induction vs with
  | nil => intro C o; rfl
  | cons v r ih => intro C o; simp [splice, ih]

theorem splice_at (vs : List Value) : ∀ (C : Array Value) (o j : Nat), o + vs.length ≤ C.size → (splice C o vs)[j]? = if o ≤ j ∧ j < o + vs.length then vs[j - o]? else C[j]? := by
  induction vs with
  | nil => intro C o j _; simp [splice]; omega
  | cons v r ih =>
    intro C o j h
    simp only [List.length_cons] at h
    simp only [splice]
    rw [ih _ _ _ (by simp; omega)]
    by_cases h1 : o + 1 ≤ j ∧ j < o + 1 + r.length
    · rw [if_pos h1, if_pos (by simp; omega)]
      have : j - o = (j - (o + 1)) + 1 := by omega
      rw [this]; simp
    · rw [if_neg h1]
      by_cases h2 : j = o
      · subst h2
        rw [if_pos (by simp), Array.getElem?_setIfInBounds, if_pos rfl, if_pos (by omega)]
        simp
      · rw [if_neg (by simp; omega)]
        rw [Array.getElem?_setIfInBounds]; rw [if_neg (by omega)]

theorem heap_setCell_self {w : World} {b o : Nat} {C : Array Value} {t : TypeId} (h : w.heap[b]? = some (.cells C t)) (v : Value) : (w.setCell ⟨b, o, none⟩ v).heap[b]? = some (.cells (C.setIfInBounds o v) t) := by
  simp [World.setCell, Array.getElem?_modify, h]

theorem heap_setCells_self (vs : List Value) : ∀ {w : World} {b o : Nat} {C : Array Value} {t : TypeId}, w.heap[b]? = some (.cells C t) → (w.setCells b o vs).heap[b]? = some (.cells (splice C o vs) t) := by
  induction vs with
  | nil => intro w b o C t h; exact h
  | cons v r ih => intro w b o C t h; exact ih (heap_setCell_self h v)

theorem heap_setCells_ne (vs : List Value) : ∀ {w : World} {b b' o : Nat}, b' ≠ b → (w.setCells b o vs).heap[b']? = w.heap[b']? := by
  induction vs with
  | nil => intro w b b' o h; rfl
  | cons v r ih => intro w b b' o h; exact (ih h).trans (Below.heap_setCell w ⟨b, o, none⟩ v b' h)

theorem size_setCells (vs : List Value) : ∀ {w : World} {b o : Nat}, (w.setCells b o vs).heap.size = w.heap.size := by
  induction vs with
  | nil => intro w b o; rfl
  | cons v r ih => intro w b o; simp [World.setCells, ih]

theorem run_storeCells_blk {P : Program} {w : World} {b o : Nat} {C : Array Value} {t : TypeId} (h : w.heap[b]? = some (.cells C t)) (vs : List Value) (hs : o + vs.length ≤ C.size) (h1 : ∀ v ∈ vs, v.oneCell' = true) :
    (storeCells ⟨b, o, none⟩ vs).run P w = .ok () (w.setCells b o vs) :=
  run_storeCells_cells b o vs 0 w (fun j hj => by rw [blk_cell h]; simp; omega) (fun j hj => blk_frozen h _) h1

theorem Sl.one (s : Sl) : ∀ v ∈ s.cells, v.oneCell' = true := by
  intro v hv
  simp only [Sl.cells, List.mem_cons, List.not_mem_nil, or_false] at hv
  rcases hv with rfl | rfl | rfl | rfl | rfl <;> rfl

theorem Sl.cells_at (s : Sl) (k : Nat) (h : k < 5) : s.cells[k]? = some (s.cell k) := by
  match k, h with
  | 0, _ => rfl
  | 1, _ => rfl
  | 2, _ => rfl
  | 3, _ => rfl
  | 4, _ => rfl

def Pc.put (p : Pc) (k m : Nat) (s : Sl) : Pc := fun r i => if r = k ∧ i = m then s else p r i

theorem Pc.splice_slot (p : Pc) (k m : Nat) (hk : k < 3) (hm : m < 9) (s : Sl) : splice p.arr (k * 45 + m * 5) s.cells = (p.put k m s).arr := by
  have hl : s.cells.length = 5 := rfl
  refine Array.ext_getElem? fun j => ?_
  rw [splice_at _ _ _ _ (by rw [Pc.size, hl]; omega), hl]
  by_cases hj : j < 135
  · rw [Pc.at _ _ hj, Pc.at _ _ hj]
    by_cases h : k * 45 + m * 5 ≤ j ∧ j < k * 45 + m * 5 + 5
    · rw [if_pos h, Sl.cells_at _ _ (by omega)]
      have e1 : j / 45 = k := by omega
      have e2 : j % 45 / 5 = m := by omega
      have e3 : j - (k * 45 + m * 5) = j % 5 := by omega
      rw [e1, e2, e3]; simp [Pc.put]
    · rw [if_neg h]
      unfold Pc.put
      rw [if_neg (by omega)]
  · rw [if_neg (by omega)]
    rw [Array.getElem?_eq_none (by rw [Pc.size]; omega), Array.getElem?_eq_none (by rw [Pc.size]; omega)]

theorem cells5 {p : Pc} {w : World} {b : Nat} {t : TypeId} (h : w.heap[b]? = some (.cells p.arr t)) (k m : Nat) (hk : k < 3) (hm : m < 9) :
    w.cell? ⟨b, k * 45 + m * 5, none⟩ = some (.bool (p k m).known) ∧ w.cell? ⟨b, k * 45 + m * 5 + 1, none⟩ = some (.bool (p k m).filled) ∧ w.cell? ⟨b, k * 45 + m * 5 + 2, none⟩ = some (.int .i64 (p k m).cart) ∧
    w.cell? ⟨b, k * 45 + m * 5 + 3, none⟩ = some (.int .i64 (p k m).item) ∧ w.cell? ⟨b, k * 45 + m * 5 + 4, none⟩ = some (.int .i64 (p k m).value) := by
  refine ⟨?_, ?_, ?_, ?_, ?_⟩ <;> rw [blk_cell h]
  · exact Pc.atRIK p k m 0 hk hm (by omega)
  · exact Pc.atRIK p k m 1 hk hm (by omega)
  · exact Pc.atRIK p k m 2 hk hm (by omega)
  · exact Pc.atRIK p k m 3 hk hm (by omega)
  · exact Pc.atRIK p k m 4 hk hm (by omega)

/-- What is joined behind some slots. -/
def partly (p q : Pc) (k m : Nat) : Pc := fun r i => if r < k ∨ r = k ∧ i < m then joinSl (p r i) (q r i) else Sl.zero

theorem partly_put (p q : Pc) (k m : Nat) : ((partly p q k m).put k m (joinSl (p k m) (q k m))).arr = (partly p q k (m + 1)).arr := by
  refine Pc.ext_arr fun r i hr hi => ?_
  unfold Pc.put partly
  by_cases h : r = k ∧ i = m
  · obtain ⟨rfl, rfl⟩ := h; simp
  · rw [if_neg h]
    by_cases h2 : r < k ∨ r = k ∧ i < m
    · rw [if_pos h2, if_pos (by omega)]
    · rw [if_neg h2, if_neg (by omega)]

theorem partly_row (p q : Pc) (k : Nat) : (partly p q k 9).arr = (partly p q (k + 1) 0).arr := by
  refine Pc.ext_arr fun r i hr hi => ?_
  unfold partly
  by_cases h2 : r < k ∨ r = k ∧ i < 9
  · rw [if_pos h2, if_pos (by omega)]
  · rw [if_neg h2, if_neg (by omega)]

theorem partly_all (p q : Pc) : (partly p q 3 0).arr = (p.join q).arr := by
  refine Pc.ext_arr fun r i hr hi => ?_
  unfold partly Pc.join
  rw [if_pos (by omega)]

theorem partly_none (p q : Pc) : (partly p q 0 0).arr = Pc.empty.arr := by
  refine Pc.ext_arr fun r i hr hi => ?_
  unfold partly Pc.empty
  rw [if_neg (by omega)]

theorem splice_all (C : Array Value) (vs : List Value) (h : vs.length = C.size) : splice C 0 vs = vs.toArray := by
  refine Array.ext_getElem? fun j => ?_
  rw [splice_at _ _ _ _ (by omega)]
  by_cases hj : j < vs.length
  · rw [if_pos (by omega)]; simp
  · rw [if_neg (by omega), Array.getElem?_eq_none (by omega)]; simp; omega

theorem cell_setCells_ne {w : World} {b b' o : Nat} (vs : List Value) (o' : Nat) (h : b' ≠ b) : (w.setCells b o vs).cell? ⟨b', o', none⟩ = w.cell? ⟨b', o', none⟩ :=
  World.cell?_setCells_out b vs o w ⟨b', o', none⟩ (fun e _ => absurd e h)

theorem hp_new (w : World) (o : Obj) : (w.alloc o).heap[w.heap.size]? = some o := heap_alloc_new w o
theorem hp_old {w : World} {b : Nat} {x : Option Obj} (o : Obj) (hb : b < w.heap.size) (h : w.heap[b]? = x) : (w.alloc o).heap[b]? = x := by
  rw [Below.heap_alloc w o b hb, h]

/-- The store of a whole row, over a whole block. -/
theorem wpList_store_blk {P : Program} {ops : Array Oper} {rest : List Oper} {op : Oper} {a : Act} {w : World} {Q : Exit → Act → World → Prop} (hgd : op.guard = none) (ty : TypeId) (x y : Operand) (ho : op.op = .store ty x y)
    (b o : Nat) (vs : List Value) (hx : a.eval x = .pointer (some ⟨b, o, none⟩)) (hy : a.eval y = .agg vs.toArray) (C : Array Value) (t : TypeId) (hg : w.heap[b]? = some (.cells C t)) (hs : o + vs.length ≤ C.size)
    (hi : (P.info? ty).map (·.size) = some vs.length) (h1 : ∀ v ∈ vs, v.oneCell' = true) (h : wpList P ops Q rest (a.put op.dst undef) (w.setCells b o vs)) : wpList P ops Q (op :: rest) a w :=
  wpList_store_mid hgd ty x y ho b o vs.toArray hx hy (fun j hj => ⟨by rw [blk_cell hg]; simp at hj ⊢; omega, blk_frozen hg _⟩) (by simpa using hi) (all_oneCell_toArray h1) (by simpa using h)

def cnt (kn : Nat → Bool) : Nat → Nat
  | 0 => 0
  | i + 1 => cnt kn i + (if kn i then 1 else 0)

theorem cnt_le (kn : Nat → Bool) (n : Nat) : cnt kn n ≤ n := by
  induction n with
  | zero => simp [cnt]
  | succ n ih => simp only [cnt]; split <;> omega

def Pc.count (p : Pc) (r : Int) : Nat := if 0 ≤ r ∧ r < 3 then cnt (fun i => (p r.toNat i).known) 9 else 0

theorem Pc.count_le (p : Pc) (r : Int) : p.count r ≤ 9 := by
  unfold Pc.count; split
  · exact cnt_le _ _
  · omega

/-- A digit's byte; a cart's; an item's. -/
def dig (d : Nat) : UInt8 := UInt8.ofNat (48 + d)
def cartB (c : Nat) : UInt8 := UInt8.ofNat (97 + c)
def itemB (c : Nat) : UInt8 := UInt8.ofNat (65 + c)

theorem ret_str {a b : ByteArray} (h : a = b) : Ending.returned (.string a) = .returned (.string b) := by rw [h]

/-- A value as text: a sign and two digits. -/
def valL (v : Int) : List UInt8 := [if v < 0 then 45 else 43, dig (v.natAbs / 10), dig (v.natAbs % 10)]


/-- The slots in a row: r * 9 + i. -/
def Pc.nth (p : Pc) (n : Nat) : Sl := p (n / 9) (n % 9)

theorem Pc.nth_ri (p : Pc) (r i : Nat) (hi : i < 9) : p.nth (r * 9 + i) = p r i := by
  unfold Pc.nth
  have e1 : (r * 9 + i) / 9 = r := by omega
  have e2 : (r * 9 + i) % 9 = i := by omega
  rw [e1, e2]

/-- Every filled slot is known and holds an entry that there can be. -/
def Pc.ok (p : Pc) : Prop := ∀ r i, r < 3 → i < 9 → (p r i).filled = true → (p r i).known = true ∧ 0 ≤ (p r i).cart ∧ (p r i).cart < 3 ∧ 0 ≤ (p r i).item ∧ (p r i).item < 4 ∧ -99 ≤ (p r i).value ∧ (p r i).value ≤ 99

def Sl.dot : Sl := ⟨true, false, 0, 0, 0⟩

def Pc.dotsTo (p : Pc) (c it : Int) (n : Nat) : Pc := fun r i => if r * 9 + i < n ∧ (p r i).isOf c it = true then Sl.dot else Sl.zero

def Pc.dotsOf (p : Pc) (c it : Int) : Pc := fun r i => if (p r i).isOf c it = true then Sl.dot else Sl.zero

theorem dotsTo_zero (p : Pc) (c it : Int) : (p.dotsTo c it 0).arr = Pc.empty.arr := by
  refine Pc.ext_arr fun r i _ _ => ?_
  unfold Pc.dotsTo Pc.empty; rw [if_neg (by omega)]

theorem dotsTo_all (p : Pc) (c it : Int) : (p.dotsTo c it 27).arr = (p.dotsOf c it).arr := by
  refine Pc.ext_arr fun r i hr hi => ?_
  unfold Pc.dotsTo Pc.dotsOf
  by_cases h : (p r i).isOf c it = true
  · rw [if_pos ⟨by omega, h⟩, if_pos h]
  · rw [if_neg (fun x => h x.2), if_neg h]

theorem dotsTo_not (p : Pc) (c it : Int) (k m : Nat) (h : (p k m).isOf c it = false) (hm : m < 9) : (p.dotsTo c it (k * 9 + m)).arr = (p.dotsTo c it (k * 9 + (m + 1))).arr := by
  refine Pc.ext_arr fun r i hr hi => ?_
  unfold Pc.dotsTo
  by_cases e : r = k ∧ i = m
  · obtain ⟨rfl, rfl⟩ := e; rw [h]; simp
  · by_cases h2 : r * 9 + i < k * 9 + m
    · have h3 : r * 9 + i < k * 9 + (m + 1) := by omega
      simp only [h2, h3]
    · have h3 : ¬ r * 9 + i < k * 9 + (m + 1) := by omega
      simp only [h2, h3]

/-- The slot's first cell set to true. -/
theorem set_known (p : Pc) (k m : Nat) (hk : k < 3) (hm : m < 9) : p.arr.setIfInBounds (k * 45 + m * 5) (.bool true) = (p.put k m { p k m with known := true }).arr := by
  refine Array.ext_getElem? fun j => ?_
  rw [Array.getElem?_setIfInBounds]
  by_cases hj : j < 135
  · rw [Pc.at (p.put k m _) _ hj]
    by_cases h : k * 45 + m * 5 = j
    · rw [if_pos h, if_pos (by rw [Pc.size]; omega)]
      have e1 : j / 45 = k := by omega
      have e2 : j % 45 / 5 = m := by omega
      have e3 : j % 5 = 0 := by omega
      rw [e1, e2, e3]; simp [Pc.put, Sl.cell]
    · rw [if_neg h, Pc.at _ _ hj]
      unfold Pc.put
      by_cases h2 : j / 45 = k ∧ j % 45 / 5 = m
      · rw [if_pos h2]
        obtain ⟨h3, h4⟩ := h2
        have h5 : j % 5 ≠ 0 := by omega
        have h6 : j % 5 < 5 := by omega
        rw [h3, h4]
        generalize j % 5 = q at *
        match q, h5, h6 with
        | 1, _, _ => rfl
        | 2, _, _ => rfl
        | 3, _, _ => rfl
        | 4, _, _ => rfl
      · rw [if_neg h2]
  · have h1 : ¬ (k * 45 + m * 5 = j) := by omega
    rw [if_neg h1, Array.getElem?_eq_none (by rw [Pc.size]; omega), Array.getElem?_eq_none (by rw [Pc.size]; omega)]

theorem dotsTo_yes (p : Pc) (c it : Int) (k m : Nat) (h : (p k m).isOf c it = true) (hm : m < 9) (hk : k < 3) : (p.dotsTo c it (k * 9 + m)).arr.setIfInBounds (k * 45 + m * 5) (.bool true) = (p.dotsTo c it (k * 9 + (m + 1))).arr := by
  rw [set_known _ _ _ hk hm]
  refine Pc.ext_arr fun r i hr hi => ?_
  unfold Pc.put Pc.dotsTo
  by_cases e : r = k ∧ i = m
  · obtain ⟨rfl, rfl⟩ := e
    rw [if_pos ⟨rfl, rfl⟩, if_neg (by omega), if_pos ⟨by omega, h⟩]
    rfl
  · rw [if_neg e]
    by_cases h2 : r * 9 + i < k * 9 + m
    · have h3 : r * 9 + i < k * 9 + (m + 1) := by omega
      simp only [h2, h3]
    · have h3 : ¬ r * 9 + i < k * 9 + (m + 1) := by omega
      simp only [h2, h3]

/-- The sum of the values, and whether there is one. -/
def Pc.sumTo (p : Pc) (c it : Int) : Nat → Int
  | 0 => 0
  | n + 1 => p.sumTo c it n + (if (p.nth n).isOf c it then (p.nth n).value else 0)
def Pc.anyTo (p : Pc) (c it : Int) : Nat → Bool
  | 0 => false
  | n + 1 => p.anyTo c it n || (p.nth n).isOf c it

theorem sumTo_bd (p : Pc) (hp : p.ok) (c it : Int) (n : Nat) (hn : n ≤ 27) : -(99 * n : Int) ≤ p.sumTo c it n ∧ p.sumTo c it n ≤ (99 * n : Int) := by
  induction n with
  | zero => simp [Pc.sumTo]
  | succ n ih =>
    have := ih (by omega)
    simp only [Pc.sumTo]
    have hs := hp (n / 9) (n % 9) (by omega) (by omega)
    by_cases h : (p.nth n).isOf c it = true
    · rw [if_pos h]
      have hf : (p (n / 9) (n % 9)).filled = true := by
        simp only [Sl.isOf, Bool.and_eq_true] at h; exact h.1
      have h2 := hs hf
      have : (p.nth n).value = (p (n / 9) (n % 9)).value := rfl
      omega
    · rw [if_neg h]; omega

/-- An entry as text. -/
def Sl.text (s : Sl) (r n : Nat) : List UInt8 := [cartB s.cart.toNat, itemB s.item.toNat, dig r, dig n] ++ valL s.value

def Pc.textTo (p : Pc) (c it : Int) : Nat → List UInt8
  | 0 => []
  | n + 1 => p.textTo c it n ++ (if (p.nth n).isOf c it then (p.nth n).text (n / 9) (n % 9 + 1) else [])

theorem textTo_len (p : Pc) (c it : Int) (n : Nat) : (p.textTo c it n).length ≤ 7 * n := by
  induction n with
  | zero => simp [Pc.textTo]
  | succ n ih =>
    simp only [Pc.textTo, List.length_append]
    split
    · simp [Sl.text, valL]; omega
    · simp; omega

end Go.Proofs.YtalaldfgjgpacaaGreatDoor

namespace Go.Proofs.YtalaldfgjgpacaaGreatDoor
set_option linter.unusedVariables false
set_option linter.unusedSimpArgs false

/-- Texts, as lists of bytes. -/
abbrev Bs : Type := List UInt8

def Srt (l : List Bs) : Prop := l.Pairwise (· < ·)

/-- The list with s in its place. -/
def withL : List Bs → Bs → List Bs
  | [], s => [s]
  | x :: l, s => if s < x then s :: x :: l else x :: withL l s

theorem lt_irr (x : Bs) : ¬ x < x := List.lt_irrefl x
theorem lt_tr {x y z : Bs} (h : x < y) (k : y < z) : x < z := List.lt_trans h k
theorem lt_tri {x y : Bs} (h : ¬ x < y) (k : ¬ y < x) : x = y := List.le_antisymm (by simpa using k) (by simpa using h)

theorem mem_withL (l : List Bs) (s x : Bs) : x ∈ withL l s ↔ x = s ∨ x ∈ l := by
  induction l with
  | nil => simp [withL]
  | cons y l ih =>
    unfold withL
    split
    · simp
    · simp only [List.mem_cons, ih]
      constructor
      · rintro (h | h | h)
        · exact .inr (.inl h)
        · exact .inl h
        · exact .inr (.inr h)
      · rintro (h | h | h)
        · exact .inr (.inl h)
        · exact .inl h
        · exact .inr (.inr h)

theorem srt_withL {l : List Bs} {s : Bs} (h : Srt l) (hs : s ∉ l) : Srt (withL l s) := by
  induction l with
  | nil => simp [withL, Srt]
  | cons y l ih =>
    unfold Srt at h ih ⊢
    rw [List.pairwise_cons] at h
    unfold withL
    split
    · rename_i hlt
      refine List.pairwise_cons.2 ⟨?_, List.pairwise_cons.2 h⟩
      intro a ha
      rcases List.mem_cons.1 ha with rfl | ha
      · exact hlt
      · exact lt_tr hlt (h.1 a ha)
    · rename_i hlt
      refine List.pairwise_cons.2 ⟨?_, ih h.2 (fun hm => hs (List.mem_cons_of_mem _ hm))⟩
      intro a ha
      rcases (mem_withL l s a).1 ha with rfl | ha
      · rcases Classical.em (y < a) with h1 | h1
        · exact h1
        · exact absurd (lt_tri h1 hlt) (fun e => hs (by rw [e]; exact List.mem_cons_self))
      · exact h.1 a ha

theorem withL_len (l : List Bs) (s : Bs) : (withL l s).length = l.length + 1 := by
  induction l with
  | nil => rfl
  | cons y l ih =>
    unfold withL
    split
    · simp
    · simp [ih]

theorem srt_ext {a b : List Bs} (ha : Srt a) (hb : Srt b) (h : ∀ x, x ∈ a ↔ x ∈ b) : a = b := by
  induction a generalizing b with
  | nil =>
    cases b with
    | nil => rfl
    | cons y b => exact absurd ((h y).2 List.mem_cons_self) (by simp)
  | cons x a ih =>
    cases b with
    | nil => exact absurd ((h x).1 List.mem_cons_self) (by simp)
    | cons y b =>
      unfold Srt at ha hb
      rw [List.pairwise_cons] at ha hb
      have hxy : x = y := by
        rcases List.mem_cons.1 ((h x).1 List.mem_cons_self) with e | e
        · exact e
        · rcases List.mem_cons.1 ((h y).2 List.mem_cons_self) with e' | e'
          · exact e'.symm
          · exact absurd (lt_tr (hb.1 x e) (ha.1 y e')) (lt_irr _)
      subst hxy
      congr 1
      refine ih ha.2 hb.2 fun z => ?_
      constructor
      · intro hz
        rcases List.mem_cons.1 ((h z).1 (List.mem_cons_of_mem _ hz)) with e | e
        · subst e; exact absurd (ha.1 z hz) (lt_irr _)
        · exact e
      · intro hz
        rcases List.mem_cons.1 ((h z).2 (List.mem_cons_of_mem _ hz)) with e | e
        · subst e; exact absurd (hb.1 z hz) (lt_irr _)
        · exact e

theorem srt_nodup {a : List Bs} (ha : Srt a) : a.Nodup := by
  unfold Srt at ha
  exact ha.imp (fun {x y} h e => by subst e; exact lt_irr _ h)

theorem srt_app {a b : List Bs} (ha : Srt a) (hb : Srt b) (h : ∀ x ∈ a, ∀ y ∈ b, x < y) : Srt (a ++ b) :=
  List.pairwise_append.2 ⟨ha, hb, h⟩

def hasL (l : List Bs) (s : Bs) : Bool := l.contains s

theorem hasL_iff (l : List Bs) (s : Bs) : hasL l s = true ↔ s ∈ l := by simp [hasL]
theorem hasL_not (l : List Bs) (s : Bs) : hasL l s = false ↔ s ∉ l := by simp [hasL]

/-- All of l that c takes, put in one behind the other, under f. -/
def insAll (f : Bs → Bs) (c : Bs → Bool) (out l : List Bs) : List Bs := l.foldl (fun o e => if c e then withL o (f e) else o) out

theorem insAll_nil (f : Bs → Bs) (c : Bs → Bool) (out : List Bs) : insAll f c out [] = out := rfl
theorem insAll_cons (f : Bs → Bs) (c : Bs → Bool) (out : List Bs) (e : Bs) (l : List Bs) : insAll f c out (e :: l) = insAll f c (if c e then withL out (f e) else out) l := rfl
theorem insAll_app (f : Bs → Bs) (c : Bs → Bool) (out a b : List Bs) : insAll f c out (a ++ b) = insAll f c (insAll f c out a) b := by simp [insAll, List.foldl_append]

theorem insAll_len (f : Bs → Bs) (c : Bs → Bool) (l : List Bs) : ∀ out, (insAll f c out l).length ≤ out.length + l.length := by
  induction l with
  | nil => intro out; simp [insAll_nil]
  | cons e l ih =>
    intro out
    rw [insAll_cons]
    have := ih (if c e then withL out (f e) else out)
    split at this
    · rename_i h
      rw [withL_len] at this
      rw [if_pos h]
      simp; omega
    · rename_i h
      rw [if_neg h]
      simp; omega

theorem mem_insAll (f : Bs → Bs) (c : Bs → Bool) (l : List Bs) : ∀ out x, x ∈ insAll f c out l ↔ x ∈ out ∨ ∃ e ∈ l, c e = true ∧ x = f e := by
  induction l with
  | nil => intro out x; simp [insAll_nil]
  | cons e l ih =>
    intro out x
    rw [insAll_cons, ih]
    cases hc : c e with
    | false => simp [hc]
    | true =>
      simp only [if_true, mem_withL, List.mem_cons, exists_eq_or_imp, hc, true_and]
      constructor
      · rintro ((h | h) | h)
        · exact .inr (.inl h)
        · exact .inl h
        · exact .inr (.inr h)
      · rintro (h | h | h)
        · exact .inl (.inr h)
        · exact .inl (.inl h)
        · exact .inr h

theorem srt_insAll (f : Bs → Bs) (c : Bs → Bool) (l : List Bs) : ∀ out, Srt out → (∀ e ∈ l, c e = true → f e ∉ out) → l.Pairwise (fun a b => c a = true → c b = true → f a ≠ f b) → Srt (insAll f c out l) := by
  induction l with
  | nil => intro out h _ _; exact h
  | cons e l ih =>
    intro out h hn hp
    rw [List.pairwise_cons] at hp
    rw [insAll_cons]
    cases hc : c e with
    | false =>
      simp only [Bool.false_eq_true, if_false]
      exact ih _ h (fun a ha => hn a (List.mem_cons_of_mem _ ha)) hp.2
    | true =>
      simp only [if_true]
      refine ih _ (srt_withL h (hn e List.mem_cons_self hc)) (fun a ha hca hm => ?_) hp.2
      rcases (mem_withL _ _ _).1 hm with e' | e'
      · exact hp.1 a ha hc hca e'.symm
      · exact hn a (List.mem_cons_of_mem _ ha) hca e'

/-- A dot of an entry. -/
def dotOf (e : Bs) : Bs := (e.drop 2).take 2

def joinD (D D' : List Bs) : List Bs := insAll id (fun d => !hasL D d) D D'
def joinE (D E D' E' : List Bs) : List Bs :=
  insAll id (fun e => !hasL D (dotOf e)) (insAll id (fun e => hasL E' e || !hasL D' (dotOf e)) [] E) E'

def flatL (l : List Bs) : Bs := l.flatten

end Go.Proofs.YtalaldfgjgpacaaGreatDoor

namespace Go.Proofs.YtalaldfgjgpacaaGreatDoor
set_option linter.unusedVariables false
set_option linter.unusedSimpArgs false

theorem ofNat_lt {a b : Nat} (h : a < b) (hb : b < 256) : UInt8.ofNat a < UInt8.ofNat b := by
  rw [UInt8.lt_iff_toNat_lt, UInt8.toNat_ofNat', UInt8.toNat_ofNat']
  rw [Nat.mod_eq_of_lt (by omega), Nat.mod_eq_of_lt (by omega)]; exact h
theorem ofNat_inj {a b : Nat} (h : UInt8.ofNat a = UInt8.ofNat b) (ha : a < 256) (hb : b < 256) : a = b := by
  have := congrArg UInt8.toNat h
  rw [UInt8.toNat_ofNat', UInt8.toNat_ofNat', Nat.mod_eq_of_lt (by omega), Nat.mod_eq_of_lt (by omega)] at this; exact this
theorem dig_lt {a b : Nat} (h : a < b) (hb : b < 100) : dig a < dig b := ofNat_lt (by omega) (by omega)
theorem dig_inj {a b : Nat} (h : dig a = dig b) (ha : a < 100) (hb : b < 100) : a = b := by have := ofNat_inj h (by omega) (by omega); omega
theorem dig_toNat (a : Nat) (h : a < 100) : (dig a).toNat = 48 + a := by unfold dig; rw [UInt8.toNat_ofNat', Nat.mod_eq_of_lt (by omega)]
theorem cartB_lt {a b : Nat} (h : a < b) (hb : b < 100) : cartB a < cartB b := ofNat_lt (by omega) (by omega)
theorem cartB_inj {a b : Nat} (h : cartB a = cartB b) (ha : a < 100) (hb : b < 100) : a = b := by have := ofNat_inj h (by omega) (by omega); omega
theorem itemB_lt {a b : Nat} (h : a < b) (hb : b < 100) : itemB a < itemB b := ofNat_lt (by omega) (by omega)
theorem itemB_inj {a b : Nat} (h : itemB a = itemB b) (ha : a < 100) (hb : b < 100) : a = b := by have := ofNat_inj h (by omega) (by omega); omega

/-- A dot as text. -/
def dotT (r i : Nat) : Bs := [dig r, dig (i + 1)]

theorem dotT_inj {r i r' i' : Nat} (h : dotT r i = dotT r' i') (hr : r < 3) (hi : i < 9) (hr' : r' < 3) (hi' : i' < 9) : r = r' ∧ i = i' := by
  simp only [dotT, List.cons.injEq, and_true] at h
  have h1 := dig_inj h.1 (by omega) (by omega)
  have h2 := dig_inj h.2 (by omega) (by omega)
  omega

theorem valL_inj {v v' : Int} (h : valL v = valL v') (h0 : -99 ≤ v) (h1 : v ≤ 99) (h0' : -99 ≤ v') (h1' : v' ≤ 99) : v = v' := by
  simp only [valL, List.cons.injEq, and_true] at h
  obtain ⟨hs, ha, hb⟩ := h
  have e1 := dig_inj ha (by omega) (by omega)
  have e2 := dig_inj hb (by omega) (by omega)
  have e3 : v.natAbs = v'.natAbs := by omega
  by_cases hv : v < 0 <;> by_cases hv' : v' < 0
  · omega
  · rw [if_pos hv, if_neg hv'] at hs; exact absurd hs (by decide)
  · rw [if_neg hv, if_pos hv'] at hs; exact absurd hs (by decide)
  · omega

/-- What is not filled, what is not known, is nought. -/
def Pc.canon (p : Pc) : Prop := ∀ r i, r < 3 → i < 9 → (p r i).filled = false → (p r i).cart = 0 ∧ (p r i).item = 0 ∧ (p r i).value = 0

theorem text_dot (s : Sl) (r i : Nat) : dotOf (s.text r (i + 1)) = dotT r i := rfl
theorem text_len (s : Sl) (r i : Nat) : (s.text r i).length = 7 := rfl

structure Sl.good (s : Sl) : Prop where
  c0 : 0 ≤ s.cart
  c1 : s.cart < 3
  i0 : 0 ≤ s.item
  i1 : s.item < 4
  v0 : -99 ≤ s.value
  v1 : s.value ≤ 99

theorem Pc.ok.good {p : Pc} (h : p.ok) {r i : Nat} (hr : r < 3) (hi : i < 9) (hf : (p r i).filled = true) : (p r i).good :=
  let ⟨_, a, b, c, d, e, f⟩ := h r i hr hi hf
  ⟨a, b, c, d, e, f⟩

theorem text_inj {s s' : Sl} {r i r' i' : Nat} (h : s.text r (i + 1) = s'.text r' (i' + 1)) (hs : s.good) (hs' : s'.good) (hr : r < 3) (hi : i < 9) (hr' : r' < 3) (hi' : i' < 9) :
    r = r' ∧ i = i' ∧ s.cart = s'.cart ∧ s.item = s'.item ∧ s.value = s'.value := by
  simp only [Sl.text, List.cons_append, List.nil_append, List.cons.injEq] at h
  obtain ⟨h1, h2, h3, h4, h5⟩ := h
  obtain ⟨a1, a2, a3, a4, a5, a6⟩ := hs
  obtain ⟨b1, b2, b3, b4, b5, b6⟩ := hs'
  have e1 := cartB_inj h1 (by omega) (by omega)
  have e2 := itemB_inj h2 (by omega) (by omega)
  have e3 := dig_inj h3 (by omega) (by omega)
  have e4 := dig_inj h4 (by omega) (by omega)
  have e5 := valL_inj h5 a5 a6 b5 b6
  omega

/-- A piece, and the document's two lists. -/
structure RelP (p : Pc) (D E : List Bs) : Prop where
  sd : Srt D
  md : ∀ x, x ∈ D ↔ ∃ r i, r < 3 ∧ i < 9 ∧ (p r i).known = true ∧ x = dotT r i
  se : Srt E
  me : ∀ x, x ∈ E ↔ ∃ r i, r < 3 ∧ i < 9 ∧ (p r i).filled = true ∧ x = (p r i).text r (i + 1)

structure Pc.fine (p : Pc) : Prop where
  ok : p.ok
  canon : p.canon

theorem RelP.hasD {p : Pc} {D E : List Bs} (h : RelP p D E) {r i : Nat} (hr : r < 3) (hi : i < 9) : hasL D (dotT r i) = (p r i).known := by
  rw [Bool.eq_iff_iff, hasL_iff, h.md]
  constructor
  · rintro ⟨r', i', hr', hi', hk, e⟩
    obtain ⟨rfl, rfl⟩ := dotT_inj e hr hi hr' hi'
    exact hk
  · intro hk; exact ⟨r, i, hr, hi, hk, rfl⟩

theorem RelP.hasE {p : Pc} {D E : List Bs} (h : RelP p D E) (hp : p.ok) {s : Sl} {r i : Nat} (hr : r < 3) (hi : i < 9) (hs : s.good) :
    hasL E (s.text r (i + 1)) = ((p r i).filled && ((p r i).cart == s.cart && ((p r i).item == s.item && (p r i).value == s.value))) := by
  rw [Bool.eq_iff_iff, hasL_iff, h.me]
  constructor
  · rintro ⟨r', i', hr', hi', hk, e⟩
    obtain ⟨rfl, rfl, e1, e2, e3⟩ := text_inj e hs (hp.good hr' hi' hk) hr hi hr' hi'
    simp [hk, e1, e2, e3]
  · intro hk
    simp only [Bool.and_eq_true, beq_iff_eq] at hk
    obtain ⟨hk, e1, e2, e3⟩ := hk
    refine ⟨r, i, hr, hi, hk, ?_⟩
    unfold Sl.text
    rw [e1, e2, e3]

theorem RelP.ents_dots {p : Pc} {D E : List Bs} (h : RelP p D E) (hp : p.ok) : E.Pairwise (fun a b => dotOf a ≠ dotOf b) := by
  refine List.Pairwise.imp_of_mem ?_ h.se
  intro a b ha hb hlt e
  obtain ⟨r, i, hr, hi, hf, rfl⟩ := (h.me a).1 ha
  obtain ⟨r', i', hr', hi', hf', rfl⟩ := (h.me b).1 hb
  rw [text_dot, text_dot] at e
  obtain ⟨rfl, rfl⟩ := dotT_inj e hr hi hr' hi'
  exact lt_irr _ hlt

theorem RelP.uniq {p : Pc} {D E D' E' : List Bs} (h : RelP p D E) (k : RelP p D' E') : D = D' ∧ E = E' :=
  ⟨srt_ext h.sd k.sd (fun x => (h.md x).trans (k.md x).symm), srt_ext h.se k.se (fun x => (h.me x).trans (k.me x).symm)⟩

theorem rel_empty : RelP Pc.empty [] [] := by
  refine ⟨List.Pairwise.nil, ?_, List.Pairwise.nil, ?_⟩
  · intro x; simp [Pc.empty, Sl.zero]
  · intro x; simp [Pc.empty, Sl.zero]

theorem joinSl_known (a b : Sl) : (joinSl a b).known = (a.known || b.known) := by
  unfold joinSl
  cases ha : a.known
  · simp
  · simp only [if_true]
    split
    · simp [ha]
    · simp

theorem Sl.eq_of_same {a b : Sl} (h : Sl.same a b = true) : a = b := by
  simp only [Sl.same, Bool.and_eq_true, beq_iff_eq] at h
  exact Sl.ext' h.1 h.2.1 h.2.2.1 h.2.2.2.1 h.2.2.2.2

theorem join_fine {p q : Pc} (hp : p.fine) (hq : q.fine) : (p.join q).fine := by
  constructor
  · intro r i hr hi
    unfold Pc.join joinSl
    split
    · split
      · exact hp.ok r i hr hi
      · intro h; simp at h
    · exact hq.ok r i hr hi
  · intro r i hr hi
    unfold Pc.join joinSl
    split
    · split
      · exact hp.canon r i hr hi
      · intro h; simp
    · exact hq.canon r i hr hi

/-- The join of two pieces is the join of their lists. -/
theorem rel_join {p q : Pc} {D E D' E' : List Bs} (h : RelP p D E) (k : RelP q D' E') (hp : p.fine) (hq : q.fine) : RelP (p.join q) (joinD D D') (joinE D E D' E') := by
  refine ⟨?_, ?_, ?_, ?_⟩
  · refine srt_insAll _ _ _ _ h.sd ?_ ?_
    · intro e he hc; simpa [hasL] using hc
    · exact List.Pairwise.imp (fun {a b} hlt _ _ e => lt_irr _ (by simp only [id] at e; rw [← e] at hlt; exact hlt)) k.sd
  · intro x
    unfold joinD
    rw [mem_insAll, h.md]
    constructor
    · rintro (⟨r, i, hr, hi, hk, rfl⟩ | ⟨e, he, _, rfl⟩)
      · exact ⟨r, i, hr, hi, by rw [Pc.join, joinSl_known, hk]; rfl, rfl⟩
      · obtain ⟨r, i, hr, hi, hk, rfl⟩ := (k.md _).1 he
        exact ⟨r, i, hr, hi, by rw [Pc.join, joinSl_known, hk]; simp, rfl⟩
    · rintro ⟨r, i, hr, hi, hk, rfl⟩
      rw [Pc.join, joinSl_known] at hk
      cases hpk : (p r i).known with
      | true => exact .inl ⟨r, i, hr, hi, hpk, rfl⟩
      | false =>
        rw [hpk] at hk
        refine .inr ⟨dotT r i, (k.md _).2 ⟨r, i, hr, hi, by simpa using hk, rfl⟩, ?_, rfl⟩
        rw [h.hasD hr hi, hpk]; rfl
  · refine srt_insAll _ _ _ _ (srt_insAll _ _ _ _ List.Pairwise.nil (fun _ _ _ => by simp) ?_) ?_ ?_
    · exact List.Pairwise.imp (fun {a b} hlt _ _ e => lt_irr _ (by simp only [id] at e; rw [← e] at hlt; exact hlt)) h.se
    · intro e he hc hm
      rw [mem_insAll] at hm
      rcases hm with hm | ⟨e', he', _, ee⟩
      · simp at hm
      · simp only [id] at ee
        subst ee
        obtain ⟨r, i, hr, hi, hf, rfl⟩ := (h.me _).1 he'
        rw [text_dot, h.hasD hr hi, (hp.ok r i hr hi hf).1] at hc
        simp at hc
    · exact List.Pairwise.imp (fun {a b} hlt _ _ e => lt_irr _ (by simp only [id] at e; rw [← e] at hlt; exact hlt)) k.se
  · intro x
    unfold joinE
    rw [mem_insAll, mem_insAll]
    constructor
    · rintro ((hx | ⟨e, he, hc, rfl⟩) | ⟨e, he, hc, rfl⟩)
      · simp at hx
      · obtain ⟨r, i, hr, hi, hf, rfl⟩ := (h.me _).1 he
        have hg := hp.ok.good hr hi hf
        have hkn := (hp.ok r i hr hi hf).1
        rw [k.hasE hq.ok hr hi hg, text_dot, k.hasD hr hi] at hc
        have hj : (p.join q) r i = p r i := by
          unfold Pc.join joinSl
          rw [if_pos hkn]
          rw [if_pos]
          cases hqk : (q r i).known with
          | false => simp
          | true =>
            rw [hqk] at hc
            simp only [Bool.not_true, Bool.or_false, Bool.and_eq_true, beq_iff_eq] at hc
            simp [Sl.same, hkn, hf, hqk, hc.1, hc.2.1, hc.2.2.1, hc.2.2.2]
        exact ⟨r, i, hr, hi, by rw [hj]; exact hf, by rw [hj]⟩
      · obtain ⟨r, i, hr, hi, hf, rfl⟩ := (k.me _).1 he
        rw [text_dot, h.hasD hr hi] at hc
        have hpk : (p r i).known = false := by simpa using hc
        have hj : (p.join q) r i = q r i := by
          unfold Pc.join joinSl
          rw [hpk]; rfl
        exact ⟨r, i, hr, hi, by rw [hj]; exact hf, by rw [hj]⟩
    · rintro ⟨r, i, hr, hi, hf, rfl⟩
      cases hpk : (p r i).known with
      | false =>
        have hj : (p.join q) r i = q r i := by
          unfold Pc.join joinSl
          rw [hpk]; rfl
        rw [hj] at hf ⊢
        refine .inr ⟨_, (k.me _).2 ⟨r, i, hr, hi, hf, rfl⟩, ?_, rfl⟩
        rw [text_dot, h.hasD hr hi, hpk]; rfl
      | true =>
        cases hs : (!(q r i).known || Sl.same (p r i) (q r i)) with
        | false =>
          have hj : (p.join q) r i = ⟨true, false, 0, 0, 0⟩ := by
            unfold Pc.join joinSl
            rw [hpk, hs]; rfl
          rw [hj] at hf; simp at hf
        | true =>
          have hj : (p.join q) r i = p r i := by
            unfold Pc.join joinSl
            rw [hpk, hs]; rfl
          rw [hj] at hf ⊢
          refine .inl (.inr ⟨_, (h.me _).2 ⟨r, i, hr, hi, hf, rfl⟩, ?_, rfl⟩)
          rw [k.hasE hq.ok hr hi (hp.ok.good hr hi hf), text_dot, k.hasD hr hi]
          cases hqk : (q r i).known with
          | false => simp
          | true =>
            rw [hqk] at hs
            have he := Sl.eq_of_same (show Sl.same (p r i) (q r i) = true by simpa using hs)
            rw [← he, hf]; simp

end Go.Proofs.YtalaldfgjgpacaaGreatDoor

namespace Go.Proofs.YtalaldfgjgpacaaGreatDoor
set_option linter.unusedVariables false
set_option linter.unusedSimpArgs false

/-- The dots of the first n slots; of some slots of one replica; their text. -/
def Pc.dlTo (p : Pc) : Nat → List Bs
  | 0 => []
  | n + 1 => p.dlTo n ++ (if (p.nth n).known then [dotT (n / 9) (n % 9)] else [])
def Pc.rowTo (p : Pc) (r : Nat) : Nat → List Bs
  | 0 => []
  | n + 1 => p.rowTo r n ++ (if (p r n).known then [dotT r n] else [])
def Pc.dtTo (p : Pc) : Nat → Bs
  | 0 => []
  | n + 1 => p.dtTo n ++ (if (p.nth n).known then dotT (n / 9) (n % 9) else [])

theorem dtTo_flat (p : Pc) (n : Nat) : (p.dlTo n).flatten = p.dtTo n := by
  induction n with
  | zero => rfl
  | succ n ih =>
    simp only [Pc.dlTo, Pc.dtTo, List.flatten_append, ih]
    split <;> simp

theorem dtTo_len (p : Pc) (n : Nat) : (p.dtTo n).length ≤ 2 * n := by
  induction n with
  | zero => simp [Pc.dtTo]
  | succ n ih =>
    simp only [Pc.dtTo, List.length_append]
    split
    · simp [dotT]; omega
    · simp; omega

theorem dtTo_succ (p : Pc) (k m : Nat) (hm : m < 9) : p.dtTo (k * 9 + (m + 1)) = p.dtTo (k * 9 + m) ++ (if (p k m).known then dotT k m else []) := by
  show p.dtTo (k * 9 + m + 1) = _
  rw [Pc.dtTo, Pc.nth_ri _ _ _ hm]
  have e1 : (k * 9 + m) / 9 = k := by omega
  have e2 : (k * 9 + m) % 9 = m := by omega
  rw [e1, e2]

theorem dlTo_row (p : Pc) (k m : Nat) (hm : m ≤ 9) : p.dlTo (k * 9 + m) = p.dlTo (k * 9) ++ p.rowTo k m := by
  induction m with
  | zero => simp [Pc.rowTo]
  | succ m ih =>
    show p.dlTo (k * 9 + m + 1) = _
    rw [Pc.dlTo, ih (by omega), Pc.rowTo, Pc.nth_ri _ _ _ (by omega)]
    have e1 : (k * 9 + m) / 9 = k := by omega
    have e2 : (k * 9 + m) % 9 = m := by omega
    rw [e1, e2, List.append_assoc]

theorem mem_dlTo (p : Pc) (n : Nat) (x : Bs) : x ∈ p.dlTo n ↔ ∃ m, m < n ∧ (p.nth m).known = true ∧ x = dotT (m / 9) (m % 9) := by
  induction n with
  | zero => simp [Pc.dlTo]
  | succ n ih =>
    rw [Pc.dlTo, List.mem_append, ih]
    constructor
    · rintro (⟨m, hm, hk, rfl⟩ | h)
      · exact ⟨m, by omega, hk, rfl⟩
      · split at h
        · rename_i hk; exact ⟨n, by omega, hk, by simpa using h⟩
        · simp at h
    · rintro ⟨m, hm, hk, rfl⟩
      by_cases e : m = n
      · subst e; right; rw [if_pos hk]; simp
      · exact .inl ⟨m, by omega, hk, rfl⟩

theorem dotT_lt {m n : Nat} (h : m < n) (hn : n < 27) : dotT (m / 9) (m % 9) < dotT (n / 9) (n % 9) := by
  unfold dotT
  rw [List.cons_lt_cons_iff]
  by_cases e : m / 9 = n / 9
  · right
    refine ⟨by rw [e], ?_⟩
    rw [List.cons_lt_cons_iff]
    left; exact dig_lt (by omega) (by omega)
  · left; exact dig_lt (by omega) (by omega)

theorem srt_dlTo (p : Pc) (n : Nat) (hn : n ≤ 27) : Srt (p.dlTo n) := by
  induction n with
  | zero => exact List.Pairwise.nil
  | succ n ih =>
    rw [Pc.dlTo]
    refine srt_app (ih (by omega)) (by split <;> simp [Srt]) ?_
    intro x hx y hy
    obtain ⟨m, hm, _, rfl⟩ := (mem_dlTo p n x).1 hx
    split at hy
    · have hy' := List.mem_singleton.1 hy
      subst hy'
      exact dotT_lt hm (by omega)
    · simp at hy

/-- The entries of an item in a cart, of the first n slots; of the first n items. -/
def Pc.elTo (p : Pc) (c it : Int) : Nat → List Bs
  | 0 => []
  | n + 1 => p.elTo c it n ++ (if (p.nth n).isOf c it then [(p.nth n).text (n / 9) (n % 9 + 1)] else [])
def Pc.elAll (p : Pc) : Nat → List Bs
  | 0 => []
  | n + 1 => p.elAll n ++ p.elTo ((n / 4 : Nat) : Int) ((n % 4 : Nat) : Int) 27

theorem textTo_flat (p : Pc) (c it : Int) (n : Nat) : (p.elTo c it n).flatten = p.textTo c it n := by
  induction n with
  | zero => rfl
  | succ n ih =>
    simp only [Pc.elTo, Pc.textTo, List.flatten_append, ih]
    split <;> simp

theorem mem_elTo (p : Pc) (c it : Int) (n : Nat) (x : Bs) : x ∈ p.elTo c it n ↔ ∃ m, m < n ∧ (p.nth m).isOf c it = true ∧ x = (p.nth m).text (m / 9) (m % 9 + 1) := by
  induction n with
  | zero => simp [Pc.elTo]
  | succ n ih =>
    rw [Pc.elTo, List.mem_append, ih]
    constructor
    · rintro (⟨m, hm, hk, rfl⟩ | h)
      · exact ⟨m, by omega, hk, rfl⟩
      · split at h
        · rename_i hk; exact ⟨n, by omega, hk, by simpa using h⟩
        · simp at h
    · rintro ⟨m, hm, hk, rfl⟩
      by_cases e : m = n
      · subst e; right; rw [if_pos hk]; simp
      · exact .inl ⟨m, by omega, hk, rfl⟩

theorem isOf_eq {s : Sl} {c it : Int} (h : s.isOf c it = true) : s.filled = true ∧ s.cart = c ∧ s.item = it := by
  simp only [Sl.isOf, Bool.and_eq_true, beq_iff_eq] at h; exact h

theorem srt_elTo (p : Pc) (c it : Int) (n : Nat) (hn : n ≤ 27) : Srt (p.elTo c it n) := by
  induction n with
  | zero => exact List.Pairwise.nil
  | succ n ih =>
    rw [Pc.elTo]
    refine srt_app (ih (by omega)) (by split <;> simp [Srt]) ?_
    intro x hx y hy
    obtain ⟨m, hm, hk, rfl⟩ := (mem_elTo p c it n x).1 hx
    split at hy
    · rename_i hk'
      have hy' := List.mem_singleton.1 hy
      subst hy'
      obtain ⟨_, c1, i1⟩ := isOf_eq hk
      obtain ⟨_, c2, i2⟩ := isOf_eq hk'
      unfold Sl.text
      rw [c1, i1, c2, i2]
      simp only [List.cons_append, List.nil_append]
      have hd := dotT_lt hm (show n < 27 by omega)
      unfold dotT at hd
      rw [List.cons_lt_cons_iff]; right; refine ⟨rfl, ?_⟩
      rw [List.cons_lt_cons_iff]; right; refine ⟨rfl, ?_⟩
      rw [List.cons_lt_cons_iff] at hd ⊢
      rcases hd with hd | ⟨hd, hd2⟩
      · exact .inl hd
      · refine .inr ⟨hd, ?_⟩
        rw [List.cons_lt_cons_iff] at hd2 ⊢
        rcases hd2 with hd2 | ⟨_, hd2⟩
        · exact .inl hd2
        · exact absurd hd2 (by simp)
    · simp at hy

theorem mem_elAll (p : Pc) (n : Nat) (x : Bs) : x ∈ p.elAll n ↔ ∃ k, k < n ∧ x ∈ p.elTo ((k / 4 : Nat) : Int) ((k % 4 : Nat) : Int) 27 := by
  induction n with
  | zero => simp [Pc.elAll]
  | succ n ih =>
    rw [Pc.elAll, List.mem_append, ih]
    constructor
    · rintro (⟨k, hk, h⟩ | h)
      · exact ⟨k, by omega, h⟩
      · exact ⟨n, by omega, h⟩
    · rintro ⟨k, hk, h⟩
      by_cases e : k = n
      · subst e; exact .inr h
      · exact .inl ⟨k, by omega, h⟩

theorem srt_elAll (p : Pc) (n : Nat) (hn : n ≤ 12) : Srt (p.elAll n) := by
  induction n with
  | zero => exact List.Pairwise.nil
  | succ n ih =>
    rw [Pc.elAll]
    refine srt_app (ih (by omega)) (srt_elTo _ _ _ _ (by omega)) ?_
    intro x hx y hy
    obtain ⟨k, hk, hx⟩ := (mem_elAll p n x).1 hx
    obtain ⟨m, hm, hi, rfl⟩ := (mem_elTo _ _ _ _ _).1 hx
    obtain ⟨m', hm', hi', rfl⟩ := (mem_elTo _ _ _ _ _).1 hy
    obtain ⟨_, c1, i1⟩ := isOf_eq hi
    obtain ⟨_, c2, i2⟩ := isOf_eq hi'
    unfold Sl.text
    rw [c1, i1, c2, i2]
    simp only [List.cons_append, List.nil_append, Int.toNat_natCast]
    rw [List.cons_lt_cons_iff]
    by_cases e : k / 4 = n / 4
    · right
      refine ⟨by rw [e], ?_⟩
      rw [List.cons_lt_cons_iff]
      left; exact itemB_lt (by omega) (by omega)
    · left; exact cartB_lt (by omega) (by omega)

/-- The lists of a piece. -/
theorem rel_lists (p : Pc) (hp : p.ok) : RelP p (p.dlTo 27) (p.elAll 12) := by
  refine ⟨srt_dlTo p 27 (by omega), ?_, srt_elAll p 12 (by omega), ?_⟩
  · intro x
    rw [mem_dlTo]
    constructor
    · rintro ⟨m, hm, hk, rfl⟩; exact ⟨m / 9, m % 9, by omega, by omega, hk, rfl⟩
    · rintro ⟨r, i, hr, hi, hk, rfl⟩
      refine ⟨r * 9 + i, by omega, by rw [Pc.nth_ri _ _ _ hi]; exact hk, ?_⟩
      have e1 : (r * 9 + i) / 9 = r := by omega
      have e2 : (r * 9 + i) % 9 = i := by omega
      rw [e1, e2]
  · intro x
    rw [mem_elAll]
    constructor
    · rintro ⟨k, hk, h⟩
      obtain ⟨m, hm, hi, rfl⟩ := (mem_elTo _ _ _ _ _).1 h
      exact ⟨m / 9, m % 9, by omega, by omega, (isOf_eq hi).1, rfl⟩
    · rintro ⟨r, i, hr, hi, hf, rfl⟩
      obtain ⟨a, b, c, d, _, _⟩ := hp.good hr hi hf
      obtain ⟨cn, hcn⟩ : ∃ cn : Nat, (p r i).cart = (cn : Int) := ⟨(p r i).cart.toNat, by omega⟩
      obtain ⟨tn, htn⟩ : ∃ tn : Nat, (p r i).item = (tn : Int) := ⟨(p r i).item.toNat, by omega⟩
      refine ⟨cn * 4 + tn, by omega, (mem_elTo _ _ _ _ _).2 ⟨r * 9 + i, by omega, ?_, ?_⟩⟩
      · rw [Pc.nth_ri _ _ _ hi]
        have e1 : (cn * 4 + tn) / 4 = cn := by omega
        have e2 : (cn * 4 + tn) % 4 = tn := by omega
        rw [e1, e2]
        simp [Sl.isOf, hf, hcn, htn]
      · rw [Pc.nth_ri _ _ _ hi]
        have e1 : (r * 9 + i) / 9 = r := by omega
        have e2 : (r * 9 + i) % 9 = i := by omega
        rw [e1, e2]

theorem RelP.eqD {p : Pc} {D E : List Bs} (h : RelP p D E) (hp : p.ok) : D = p.dlTo 27 := (h.uniq (rel_lists p hp)).1
theorem RelP.eqE {p : Pc} {D E : List Bs} (h : RelP p D E) (hp : p.ok) : E = p.elAll 12 := (h.uniq (rel_lists p hp)).2

/-- How many dots of a replica. -/
def knownL (D : List Bs) (r : Int) : Nat := D.countP (fun d => decide (((d.getD 0 0).toNat : Int) - 48 = r))

theorem known_row (p : Pc) (k : Nat) (r : Int) (hk : k < 3) (n : Nat) (hn : n ≤ 9) : knownL (p.rowTo k n) r = if r = k then cnt (fun i => (p k i).known) n else 0 := by
  induction n with
  | zero => simp [knownL, Pc.rowTo, cnt]
  | succ n ih =>
    have h1 : knownL (p.rowTo k (n + 1)) r = knownL (p.rowTo k n) r + knownL (if (p k n).known then [dotT k n] else []) r := by
      simp [knownL, Pc.rowTo, List.countP_append]
    rw [h1, ih (by omega)]
    have h2 : knownL [dotT k n] r = if r = k then 1 else 0 := by
      have : ((dig k).toNat : Int) - 48 = k := by rw [dig_toNat k (by omega)]; omega
      simp only [knownL, dotT, List.countP_cons, List.countP_nil, List.getD_cons_zero, this]
      by_cases e : r = k
      · simp [e]
      · have e' : ¬ ((k : Int) = r) := fun h => e h.symm
        simp [e, e']
    simp only [cnt]
    by_cases hkn : (p k n).known = true
    · simp only [hkn, if_true, h2]
      split <;> simp
    · simp only [hkn, if_false, Bool.false_eq_true]
      split <;> simp [knownL]

theorem RelP.known {p : Pc} {D E : List Bs} (h : RelP p D E) (hp : p.ok) (r : Int) : knownL D r = p.count r := by
  rw [h.eqD hp]
  have e : p.dlTo 27 = p.rowTo 0 9 ++ p.rowTo 1 9 ++ p.rowTo 2 9 := by
    have h2 := dlTo_row p 2 9 (by omega)
    have h1 := dlTo_row p 1 9 (by omega)
    have h0 := dlTo_row p 0 9 (by omega)
    simp only [Nat.reduceMul, Nat.reduceAdd] at h2 h1 h0
    rw [h2, h1, h0]; simp [Pc.dlTo]
  rw [e]
  have hadd : ∀ a b, knownL (a ++ b) r = knownL a r + knownL b r := fun a b => by simp [knownL, List.countP_append]
  rw [hadd, hadd, known_row p 0 r (by omega) 9 (by omega), known_row p 1 r (by omega) 9 (by omega), known_row p 2 r (by omega) 9 (by omega)]
  unfold Pc.count
  by_cases hr : 0 ≤ r ∧ r < 3
  · rw [if_pos hr]
    have : r = 0 ∨ r = 1 ∨ r = 2 := by omega
    rcases this with rfl | rfl | rfl <;> simp
  · rw [if_neg hr]
    have a0 : ¬ (r = ((0 : Nat) : Int)) := by omega
    have a1 : ¬ (r = ((1 : Nat) : Int)) := by omega
    have a2 : ¬ (r = ((2 : Nat) : Int)) := by omega
    rw [if_neg a0, if_neg a1, if_neg a2]

end Go.Proofs.YtalaldfgjgpacaaGreatDoor

namespace Go.Proofs.YtalaldfgjgpacaaGreatDoor
set_option linter.unusedVariables false
set_option linter.unusedSimpArgs false

def Pc.noHole (p : Pc) : Prop := ∀ r i, r < 3 → i + 1 < 9 → (p r (i + 1)).known = true → (p r i).known = true

theorem cnt_full (kn : Nat → Bool) (n : Nat) (h : ∀ i, i < n → kn i = true) : cnt kn n = n := by
  induction n with
  | zero => rfl
  | succ n ih => rw [cnt, ih (fun i hi => h i (by omega)), h n (by omega)]; simp

theorem nohole_cnt (kn : Nat → Bool) (N : Nat) (h : ∀ i, i + 1 < N → kn (i + 1) = true → kn i = true) : ∀ n, n ≤ N → ∀ i, i < n → kn i = decide (i < cnt kn n) := by
  have down : ∀ j i, j < N → kn j = true → i ≤ j → kn i = true := by
    intro j
    induction j with
    | zero => intro i _ hk hi; have : i = 0 := by omega
              subst this; exact hk
    | succ j ih =>
      intro i hj hk hi
      by_cases e : i = j + 1
      · subst e; exact hk
      · exact ih i (by omega) (h j hj hk) (by omega)
  intro n
  induction n with
  | zero => intro _ i hi; omega
  | succ n ih =>
    intro hn i hi
    rw [cnt]
    cases hk : kn n with
    | true =>
      rw [cnt_full kn n (fun j hj => down n j (by omega) hk (by omega))]
      rw [down n i (by omega) hk (by omega)]
      simp; omega
    | false =>
      simp only [Bool.false_eq_true, if_false, Nat.add_zero]
      by_cases e : i = n
      · subst e; rw [hk]; have := cnt_le kn i; simp; omega
      · exact ih (by omega) i (by omega)

theorem Pc.noHole.at {p : Pc} (h : p.noHole) {r i : Nat} (hr : r < 3) (hi : i < 9) : (p r i).known = decide (i < p.count (r : Int)) := by
  have := nohole_cnt (fun i => (p r i).known) 9 (fun i hi => h r i hr hi) 9 (by omega) i hi
  rw [Pc.count, if_pos (by omega)]
  simpa using this

theorem noHole_empty : Pc.empty.noHole := by intro r i _ _ h; simp [Pc.empty, Sl.zero] at h
theorem fine_empty : Pc.empty.fine := ⟨fun r i _ _ h => by simp [Pc.empty, Sl.zero] at h, fun r i _ _ _ => by simp [Pc.empty, Sl.zero]⟩

/-- The delta of an event: what it takes away, and its own slot. -/
theorem rel_delta {p : Pc} {D E : List Bs} (h : RelP p D E) (hp : p.fine) (me k : Nat) (hme : me < 3) (hk : k < 9) (hnk : (p me k).known = false) (T : Sl → Bool) (hT : ∀ s, T s = true → s.filled = true)
    (T' : Bs → Bool) (hTT : ∀ r i, r < 3 → i < 9 → (p r i).filled = true → T' ((p r i).text r (i + 1)) = T (p r i)) (q : Pc) (hq : ∀ r i, r < 3 → i < 9 → q r i = if T (p r i) then Sl.dot else Sl.zero)
    (s : Sl) (hs : s.known = true) (hg : s.filled = true → s.good) (hc : s.filled = false → s.cart = 0 ∧ s.item = 0 ∧ s.value = 0) :
    RelP (q.put me k s) (insAll dotOf T' [dotT me k] E) (if s.filled then [s.text me (k + 1)] else []) ∧ (q.put me k s).fine ∧
      (p.noHole → k = p.count (me : Int) → (p.join (q.put me k s)).noHole) := by
  have hqk : ∀ r i, r < 3 → i < 9 → (q r i).known = T (p r i) ∧ (q r i).filled = false := by
    intro r i hr hi
    rw [hq r i hr hi]
    cases T (p r i) <;> simp [Sl.dot, Sl.zero]
  have hTk : ∀ r i, r < 3 → i < 9 → T (p r i) = true → (p r i).known = true := fun r i hr hi ht => (hp.ok r i hr hi (hT _ ht)).1
  refine ⟨⟨?_, ?_, ?_, ?_⟩, ⟨?_, ?_⟩, ?_⟩
  · refine srt_insAll _ _ _ _ (by simp [Srt]) ?_ ?_
    · intro e he hce hm
      obtain ⟨r, i, hr, hi, hf, rfl⟩ := (h.me _).1 he
      rw [text_dot] at hm
      obtain ⟨rfl, rfl⟩ := dotT_inj (List.mem_singleton.1 hm) hr hi hme hk
      rw [(hp.ok r i hr hi hf).1] at hnk; cases hnk
    · exact (h.ents_dots hp.ok).imp (fun {a b} hab _ _ => hab)
  · intro x
    rw [mem_insAll]
    constructor
    · rintro (hx | ⟨e, he, hce, rfl⟩)
      · exact ⟨me, k, hme, hk, by simp [Pc.put, hs], List.mem_singleton.1 hx⟩
      · obtain ⟨r, i, hr, hi, hf, rfl⟩ := (h.me _).1 he
        rw [hTT r i hr hi hf] at hce
        refine ⟨r, i, hr, hi, ?_, rfl⟩
        unfold Pc.put
        split
        · exact hs
        · rw [(hqk r i hr hi).1]; exact hce
    · rintro ⟨r, i, hr, hi, hkn, rfl⟩
      unfold Pc.put at hkn
      split at hkn
      · rename_i e; obtain ⟨rfl, rfl⟩ := e; left; simp
      · rw [(hqk r i hr hi).1] at hkn
        right
        exact ⟨_, (h.me _).2 ⟨r, i, hr, hi, hT _ hkn, rfl⟩, by rw [hTT r i hr hi (hT _ hkn)]; exact hkn, rfl⟩
  · split <;> simp [Srt]
  · intro x
    constructor
    · intro hx
      split at hx
      · rename_i hf
        refine ⟨me, k, hme, hk, by simp [Pc.put, hf], ?_⟩
        rw [List.mem_singleton.1 hx]; simp [Pc.put]
      · simp at hx
    · rintro ⟨r, i, hr, hi, hf, rfl⟩
      unfold Pc.put at hf ⊢
      split at hf
      · rename_i e
        obtain ⟨rfl, rfl⟩ := e
        simp [hf]
      · rw [(hqk r i hr hi).2] at hf; cases hf
  · intro r i hr hi hf
    unfold Pc.put at hf ⊢
    split at hf
    · rename_i e
      simp only [e, and_self, if_true]
      obtain ⟨a, b, c, d, e', f⟩ := hg hf
      exact ⟨hs, a, b, c, d, e', f⟩
    · rw [(hqk r i hr hi).2] at hf; cases hf
  · intro r i hr hi hf
    unfold Pc.put at hf ⊢
    split at hf
    · rename_i e
      simp only [e, and_self, if_true]
      exact hc hf
    · rename_i e
      simp only [e, if_false]
      rw [hq r i hr hi]
      cases T (p r i) <;> simp [Sl.dot, Sl.zero]
  · intro hnh hkc r i hr hi
    simp only [Pc.join, joinSl_known]
    have hpi := hnh.at hr (show i < 9 by omega)
    have hpi1 := hnh.at hr hi
    have hd : ∀ j, j < 9 → ((q.put me k s) r j).known = true → (p r j).known = true ∨ (r = me ∧ j = k) := by
      intro j hj hkn
      unfold Pc.put at hkn
      split at hkn
      · rename_i e; exact .inr e
      · rw [(hqk r j hr hj).1] at hkn
        exact .inl (hTk r j hr hj hkn)
    intro hor
    have hlt : i + 1 ≤ p.count (r : Int) := by
      rcases Bool.or_eq_true_iff.1 hor with h1 | h1
      · rw [hpi1] at h1; simp at h1; omega
      · rcases hd _ hi h1 with h2 | ⟨rfl, h2⟩
        · rw [hpi1] at h2; simp at h2; omega
        · omega
    rw [hpi]; simp; left; omega

end Go.Proofs.YtalaldfgjgpacaaGreatDoor

namespace Go.Proofs.YtalaldfgjgpacaaGreatDoor
set_option linter.unusedVariables false
set_option linter.unusedSimpArgs false

/-- A dot's text; an entry's. -/
def dotG (d : Bs) : Prop := ∃ r i, r < 3 ∧ i < 9 ∧ d = dotT r i
def entG (e : Bs) : Prop := ∃ (s : Sl) (r i : Nat), r < 3 ∧ i < 9 ∧ s.good ∧ e = s.text r (i + 1)

/-- A text that is a piece, and its lists. -/
structure Good (l : Bs) (D E : List Bs) : Prop where
  eq : l = D.flatten ++ 59 :: E.flatten
  sd : Srt D
  gd : ∀ d ∈ D, dotG d
  se : Srt E
  ge : ∀ e ∈ E, entG e
  ed : ∀ e ∈ E, dotOf e ∈ D
  nd : E.Pairwise (fun a b => dotOf a ≠ dotOf b)

theorem dig_of {a : UInt8} (h0 : 48 ≤ a.toNat) (h1 : a.toNat < 148) : a = dig (a.toNat - 48) := by
  apply UInt8.toNat_inj.1
  rw [dig_toNat _ (by omega)]; omega

theorem dotG_iff (a b : UInt8) : dotG [a, b] ↔ (48 ≤ a.toNat ∧ a.toNat < 51) ∧ (49 ≤ b.toNat ∧ b.toNat ≤ 57) := by
  constructor
  · rintro ⟨r, i, hr, hi, h⟩
    simp only [dotT, List.cons.injEq, and_true] at h
    rw [h.1, h.2, dig_toNat _ (by omega), dig_toNat _ (by omega)]; omega
  · rintro ⟨⟨h0, h1⟩, h2, h3⟩
    refine ⟨a.toNat - 48, b.toNat - 49, by omega, by omega, ?_⟩
    unfold dotT
    rw [← dig_of h0 (by omega), show b.toNat - 49 + 1 = b.toNat - 48 by omega, ← dig_of (by omega) (by omega)]

theorem cartB_toNat (a : Nat) (h : a < 100) : (cartB a).toNat = 97 + a := by unfold cartB; rw [UInt8.toNat_ofNat', Nat.mod_eq_of_lt (by omega)]
theorem itemB_toNat (a : Nat) (h : a < 100) : (itemB a).toNat = 65 + a := by unfold itemB; rw [UInt8.toNat_ofNat', Nat.mod_eq_of_lt (by omega)]

/-- An entry's text, byte by byte. -/
def entB (c it r n sg d0 d1 : UInt8) : Prop :=
  (97 ≤ c.toNat ∧ c.toNat < 100) ∧ (65 ≤ it.toNat ∧ it.toNat < 69) ∧ (48 ≤ r.toNat ∧ r.toNat < 51) ∧ (49 ≤ n.toNat ∧ n.toNat ≤ 57) ∧ (sg = 43 ∨ sg = 45) ∧ (48 ≤ d0.toNat ∧ d0.toNat ≤ 57) ∧ (48 ≤ d1.toNat ∧ d1.toNat ≤ 57) ∧ ¬ (sg = 45 ∧ d0 = 48 ∧ d1 = 48)

theorem entG_iff (c it r n sg d0 d1 : UInt8) : entG [c, it, r, n, sg, d0, d1] ↔ entB c it r n sg d0 d1 := by
  constructor
  · rintro ⟨s, r', i', hr, hi, ⟨a0, a1, a2, a3, a4, a5⟩, h⟩
    simp only [Sl.text, valL, List.cons_append, List.nil_append, List.cons.injEq, and_true] at h
    obtain ⟨rfl, rfl, rfl, rfl, h5, rfl, rfl⟩ := h
    unfold entB
    rw [cartB_toNat _ (by omega), itemB_toNat _ (by omega), dig_toNat _ (by omega), dig_toNat _ (by omega), dig_toNat _ (by omega), dig_toNat _ (by omega)]
    refine ⟨by omega, by omega, by omega, by omega, ?_, by omega, by omega, ?_⟩
    · rw [h5]; split <;> simp
    · rintro ⟨e1, e2, e3⟩
      rw [h5] at e1
      have e2' : s.value.natAbs / 10 = 0 := dig_inj (by rw [e2]; rfl) (by omega) (by omega)
      have e3' : s.value.natAbs % 10 = 0 := dig_inj (by rw [e3]; rfl) (by omega) (by omega)
      have : ¬ s.value < 0 := by omega
      rw [if_neg this] at e1; revert e1; decide
  · rintro ⟨⟨a0, a1⟩, ⟨b0, b1⟩, ⟨c0, c1⟩, ⟨e0, e1⟩, hs, ⟨f0, f1⟩, ⟨g0, g1⟩, hn⟩
    have hb : ∀ a : UInt8, ∀ k : Nat, 48 ≤ a.toNat → a.toNat ≤ 57 → k = a.toNat - 48 → dig k = a := fun a k h h' hk => by rw [hk]; exact (dig_of h (by omega)).symm
    have hc : cartB (c.toNat - 97) = c := by apply UInt8.toNat_inj.1; rw [cartB_toNat _ (by omega)]; omega
    have hi : itemB (it.toNat - 65) = it := by apply UInt8.toNat_inj.1; rw [itemB_toNat _ (by omega)]; omega
    have key : ∀ v : Int, v.natAbs = (d0.toNat - 48) * 10 + (d1.toNat - 48) → (if v < 0 then (45 : UInt8) else 43) = sg → entG [c, it, r, n, sg, d0, d1] := by
      intro v hv hsg
      refine ⟨⟨true, true, ((c.toNat - 97 : Nat) : Int), ((it.toNat - 65 : Nat) : Int), v⟩, r.toNat - 48, n.toNat - 49, by omega, by omega, ⟨by simp, by simp; omega, by simp, by simp; omega, by simp; omega, by simp; omega⟩, ?_⟩
      simp only [Sl.text, valL, List.cons_append, List.nil_append, Int.toNat_natCast, hc, hi, hsg]
      rw [hb r _ c0 (by omega) rfl, hb n (n.toNat - 49 + 1) (by omega) e1 (by omega), hb d0 (v.natAbs / 10) f0 f1 (by omega), hb d1 (v.natAbs % 10) g0 g1 (by omega)]
    rcases hs with rfl | rfl
    · refine key (((d0.toNat - 48) * 10 + (d1.toNat - 48) : Nat) : Int) (by omega) ?_
      rw [if_neg (by omega)]
    · refine key (-(((d0.toNat - 48) * 10 + (d1.toNat - 48) : Nat) : Int)) (by omega) ?_
      rw [if_pos]
      have : ¬ (d0.toNat = 48 ∧ d1.toNat = 48) := fun ⟨x, y⟩ => hn ⟨rfl, UInt8.toNat_inj.1 x, UInt8.toNat_inj.1 y⟩
      omega

theorem dotG_len {d : Bs} (h : dotG d) : d.length = 2 := by obtain ⟨r, i, _, _, rfl⟩ := h; rfl
theorem entG_len {d : Bs} (h : entG d) : d.length = 7 := by obtain ⟨s, r, i, _, _, _, rfl⟩ := h; rfl
theorem dotG_head {d : Bs} (h : dotG d) : d.getD 0 0 ≠ 59 := by
  obtain ⟨r, i, hr, _, rfl⟩ := h
  intro e
  have : (dig r).toNat = 59 := by have := congrArg UInt8.toNat e; simpa [dotT] using this
  rw [dig_toNat _ (by omega)] at this; omega

theorem flat_drop (m : Nat) (L : List Bs) (h : ∀ x ∈ L, x.length = m) (rest : Bs) (k : Nat) : k ≤ L.length → (L.flatten ++ rest).drop (m * k) = (L.drop k).flatten ++ rest := by
  induction L generalizing k with
  | nil => intro hk; simp only [List.length_nil] at hk; have : k = 0 := by omega
           subst this; simp
  | cons x L ih =>
    intro hk
    cases k with
    | zero => simp
    | succ k =>
      have hx := h x List.mem_cons_self
      rw [List.flatten_cons, List.append_assoc, Nat.mul_succ, Nat.add_comm, ← List.drop_drop, ← hx, List.drop_left, hx]
      exact ih (fun y hy => h y (List.mem_cons_of_mem _ hy)) k (by simpa using hk)

theorem flat_len' (E : List Bs) (m : Nat) (h : ∀ x ∈ E, x.length = m) : E.flatten.length = m * E.length := by
  induction E with
  | nil => simp
  | cons x E ih =>
    rw [List.flatten_cons, List.length_append, ih (fun y hy => h y (List.mem_cons_of_mem _ hy)), h x List.mem_cons_self, List.length_cons, Nat.mul_succ]; omega

/-- How far the dots of a text have been read. -/
structure DSt (l : Bs) (D : List Bs) : Prop where
  eq : l = D.flatten ++ l.drop (2 * D.length)
  sd : Srt D
  gd : ∀ d ∈ D, dotG d
  pre : ∀ D' E', Good l D' E' → D <+: D'

theorem DSt.zero (l : Bs) : DSt l [] := ⟨by simp, List.Pairwise.nil, by simp, fun _ _ _ => List.nil_prefix⟩

theorem DSt.at_good {l : Bs} {D : List Bs} (h : DSt l D) {D' E' : List Bs} (g : Good l D' E') : ∃ R, D' = D ++ R ∧ l.drop (2 * D.length) = R.flatten ++ 59 :: E'.flatten := by
  obtain ⟨R, hR⟩ := h.pre _ _ g
  refine ⟨R, hR.symm, ?_⟩
  have h1 := h.eq
  have h2 := g.eq
  rw [← hR, List.flatten_append, List.append_assoc] at h2
  rw [h2] at h1
  have h3 := List.append_cancel_left h1
  rw [← h2] at h3; exact h3.symm

theorem DSt.len {l : Bs} {D : List Bs} (h : DSt l D) : 2 * D.length ≤ l.length := by
  have h1 := congrArg List.length h.eq
  rw [List.length_append, flat_len' D 2 (fun x hx => dotG_len (h.gd x hx)), List.length_drop] at h1
  omega

theorem drop_cons {l : Bs} {i : Nat} (h : i < l.length) : l.drop i = l.getD i 0 :: l.drop (i + 1) := by
  rw [List.drop_eq_getElem_cons h]; simp [List.getD_eq_getElem?_getD, h]

/-- No piece: it ends within the dots. -/
theorem DSt.none_end {l : Bs} {D : List Bs} (h : DSt l D) (he : l.length ≤ 2 * D.length) (D' E' : List Bs) : ¬ Good l D' E' := by
  intro g
  obtain ⟨R, hR, e⟩ := h.at_good g
  rw [List.drop_eq_nil_of_le he] at e
  have := congrArg List.length e
  simp at this

def lastLt (D : List Bs) (d : Bs) : Prop := D = [] ∨ D.getLastD [] < d

theorem srt_snoc {D : List Bs} {d : Bs} (h : Srt D) (k : lastLt D d) : Srt (D ++ [d]) := by
  rcases k with rfl | k
  · simp [Srt]
  · refine srt_app h (by simp [Srt]) ?_
    intro x hx y hy
    rw [List.mem_singleton.1 hy]
    have hne : D ≠ [] := fun e => by rw [e] at hx; simp at hx
    have hl : D.getLastD [] = D.getLast hne := by rw [List.getLastD_eq_getLast?, List.getLast?_eq_some_getLast hne]; rfl
    rw [hl] at k
    by_cases e : x = D.getLast hne
    · rw [e]; exact k
    · have hd := List.dropLast_concat_getLast hne
      have h' := h
      unfold Srt at h'
      rw [← hd, List.pairwise_append] at h'
      have hxm : x ∈ D.dropLast := by
        rw [← hd, List.mem_append] at hx
        rcases hx with hx | hx
        · exact hx
        · exact absurd (List.mem_singleton.1 hx) e
      exact lt_tr (h'.2.2 x hxm _ (by simp)) k

theorem lastLt_of_srt {D R : List Bs} {d : Bs} (h : Srt (D ++ d :: R)) : lastLt D d := by
  by_cases hne : D = []
  · exact .inl hne
  · right
    have hl : D.getLastD [] = D.getLast hne := by rw [List.getLastD_eq_getLast?, List.getLast?_eq_some_getLast hne]; rfl
    rw [hl]
    unfold Srt at h
    rw [List.pairwise_append] at h
    exact h.2.2 _ (List.getLast_mem hne) d List.mem_cons_self

/-- The next dot. -/
theorem DSt.good_next {l : Bs} {D : List Bs} (h : DSt l D) (hi : 2 * D.length < l.length) (hs : l.getD (2 * D.length) 0 ≠ 59) {D' E' : List Bs} (g : Good l D' E') :
    2 * D.length + 2 ≤ l.length ∧ dotG [l.getD (2 * D.length) 0, l.getD (2 * D.length + 1) 0] ∧ lastLt D [l.getD (2 * D.length) 0, l.getD (2 * D.length + 1) 0] ∧ D ++ [[l.getD (2 * D.length) 0, l.getD (2 * D.length + 1) 0]] <+: D' := by
  obtain ⟨R, hR, e⟩ := h.at_good g
  cases R with
  | nil =>
    rw [drop_cons hi] at e
    simp only [List.flatten_nil, List.nil_append, List.cons.injEq] at e
    exact absurd e.1 hs
  | cons d R =>
    have hd : dotG d := g.gd d (by rw [hR]; simp)
    obtain ⟨r, i, hr, hi', rfl⟩ := hd
    have hlen : 2 * D.length + 2 ≤ l.length := by
      have := congrArg List.length e
      simp only [List.length_drop, List.flatten_cons, List.length_append, List.length_cons] at this
      have h2 : (dotT r i).length = 2 := rfl
      omega
    have hdd : dotT r i = [l.getD (2 * D.length) 0, l.getD (2 * D.length + 1) 0] := by
      rw [drop_cons hi, drop_cons (by omega : 2 * D.length + 1 < l.length)] at e
      simp only [List.flatten_cons, dotT, List.cons_append, List.nil_append, List.cons.injEq] at e
      rw [e.1, e.2.1]; rfl
    rw [← hdd]
    exact ⟨hlen, ⟨r, i, hr, hi', rfl⟩, lastLt_of_srt (by rw [← hR]; exact g.sd), ⟨R, by rw [hR]; simp⟩⟩

theorem DSt.next {l : Bs} {D : List Bs} (h : DSt l D) (hi : 2 * D.length + 2 ≤ l.length) (hs : l.getD (2 * D.length) 0 ≠ 59) (hd : dotG [l.getD (2 * D.length) 0, l.getD (2 * D.length + 1) 0]) (hl : lastLt D [l.getD (2 * D.length) 0, l.getD (2 * D.length + 1) 0]) :
    DSt l (D ++ [[l.getD (2 * D.length) 0, l.getD (2 * D.length + 1) 0]]) := by
  refine ⟨?_, srt_snoc h.sd hl, ?_, fun D' E' g => (h.good_next (by omega) hs g).2.2.2⟩
  · have h1 := h.eq
    rw [drop_cons (by omega : 2 * D.length < l.length), drop_cons (by omega : 2 * D.length + 1 < l.length)] at h1
    rw [List.flatten_append, List.length_append]
    simp only [List.flatten_cons, List.flatten_nil, List.append_nil, List.length_singleton, List.append_assoc, List.cons_append, List.nil_append]
    rw [show 2 * (D.length + 1) = 2 * D.length + 1 + 1 by omega]; exact h1
  · intro d hm
    rcases List.mem_append.1 hm with hm | hm
    · exact h.gd d hm
    · rw [List.mem_singleton.1 hm]; exact hd

/-- How far its entries have been read. -/
structure ESt (l : Bs) (D E : List Bs) : Prop where
  eq : l = D.flatten ++ 59 :: (E.flatten ++ l.drop (2 * D.length + 1 + 7 * E.length))
  sd : Srt D
  gd : ∀ d ∈ D, dotG d
  se : Srt E
  ge : ∀ e ∈ E, entG e
  ed : ∀ e ∈ E, dotOf e ∈ D
  nd : E.Pairwise (fun a b => dotOf a ≠ dotOf b)
  pre : ∀ D' E', Good l D' E' → D' = D ∧ E <+: E'

theorem DSt.semi {l : Bs} {D : List Bs} (h : DSt l D) (hi : 2 * D.length < l.length) (hs : l.getD (2 * D.length) 0 = 59) : ESt l D [] := by
  refine ⟨?_, h.sd, h.gd, List.Pairwise.nil, by simp, by simp, List.Pairwise.nil, ?_⟩
  · have h1 := h.eq
    rw [drop_cons hi, hs] at h1
    simpa using h1
  · intro D' E' g
    refine ⟨?_, List.nil_prefix⟩
    obtain ⟨R, hR, e⟩ := h.at_good g
    cases R with
    | nil => simpa using hR
    | cons d R =>
      exfalso
      have hd : dotG d := g.gd d (by rw [hR]; simp)
      have := dotG_head hd
      obtain ⟨r, i, hr, hi', rfl⟩ := hd
      rw [drop_cons hi, hs] at e
      simp only [List.flatten_cons, dotT, List.cons_append, List.nil_append, List.cons.injEq] at e
      apply this; rw [dotT]; exact e.1.symm

theorem ESt.at_good {l : Bs} {D E : List Bs} (h : ESt l D E) {D' E' : List Bs} (g : Good l D' E') : D' = D ∧ ∃ R, E' = E ++ R ∧ l.drop (2 * D.length + 1 + 7 * E.length) = R.flatten := by
  obtain ⟨rfl, R, hR⟩ := h.pre _ _ g
  refine ⟨rfl, R, hR.symm, ?_⟩
  have h1 := h.eq
  have h2 := g.eq
  rw [← hR, List.flatten_append] at h2
  rw [h2] at h1
  have h3 := List.append_cancel_left h1
  rw [← h2] at h3
  simp only [List.cons.injEq, true_and] at h3
  exact (List.append_cancel_left h3).symm

theorem ESt.len {l : Bs} {D E : List Bs} (h : ESt l D E) : 2 * D.length + 1 + 7 * E.length ≤ l.length := by
  have h1 := congrArg List.length h.eq
  rw [List.length_append, List.length_cons, List.length_append, flat_len' D 2 (fun x hx => dotG_len (h.gd x hx)), flat_len' E 7 (fun x hx => entG_len (h.ge x hx)), List.length_drop] at h1
  omega

theorem ESt.done {l : Bs} {D E : List Bs} (h : ESt l D E) (he : l.length ≤ 2 * D.length + 1 + 7 * E.length) : Good l D E := by
  refine ⟨?_, h.sd, h.gd, h.se, h.ge, h.ed, h.nd⟩
  have h1 := h.eq
  rw [List.drop_eq_nil_of_le he] at h1
  simpa using h1

theorem ESt.good_next {l : Bs} {D E : List Bs} (h : ESt l D E) (hi : 2 * D.length + 1 + 7 * E.length < l.length) {D' E' : List Bs} (g : Good l D' E') :
    2 * D.length + 1 + 7 * E.length + 7 ≤ l.length ∧ entG ((l.drop (2 * D.length + 1 + 7 * E.length)).take 7) ∧ lastLt E ((l.drop (2 * D.length + 1 + 7 * E.length)).take 7) ∧ dotOf ((l.drop (2 * D.length + 1 + 7 * E.length)).take 7) ∈ D ∧
      dotOf ((l.drop (2 * D.length + 1 + 7 * E.length)).take 7) ∉ E.map dotOf ∧ D' = D ∧ E ++ [(l.drop (2 * D.length + 1 + 7 * E.length)).take 7] <+: E' := by
  obtain ⟨rfl, R, hR, e⟩ := h.at_good g
  cases R with
  | nil =>
    have := congrArg List.length e
    simp at this; omega
  | cons x R =>
    have hx : entG x := g.ge x (by rw [hR]; simp)
    have hl := entG_len hx
    have ex : (l.drop (2 * D'.length + 1 + 7 * E.length)).take 7 = x := by
      rw [e, List.flatten_cons, ← hl, List.take_left]
    have hlen := congrArg List.length e
    rw [List.length_drop, List.flatten_cons, List.length_append, hl] at hlen
    rw [ex]
    refine ⟨by omega, hx, lastLt_of_srt (by rw [← hR]; exact g.se), g.ed x (by rw [hR]; simp), ?_, rfl, ⟨R, by rw [hR]; simp⟩⟩
    intro hm
    obtain ⟨y, hy, hyx⟩ := List.mem_map.1 hm
    have hn := g.nd
    rw [hR, List.pairwise_append] at hn
    exact hn.2.2 y hy x List.mem_cons_self hyx

theorem ESt.next {l : Bs} {D E : List Bs} (h : ESt l D E) (hi : 2 * D.length + 1 + 7 * E.length + 7 ≤ l.length) (he : entG ((l.drop (2 * D.length + 1 + 7 * E.length)).take 7)) (hl : lastLt E ((l.drop (2 * D.length + 1 + 7 * E.length)).take 7))
    (hd : dotOf ((l.drop (2 * D.length + 1 + 7 * E.length)).take 7) ∈ D) (hn : dotOf ((l.drop (2 * D.length + 1 + 7 * E.length)).take 7) ∉ E.map dotOf) :
    ESt l D (E ++ [(l.drop (2 * D.length + 1 + 7 * E.length)).take 7]) := by
  refine ⟨?_, h.sd, h.gd, srt_snoc h.se hl, ?_, ?_, ?_, fun D' E' g => (h.good_next (by omega) g).2.2.2.2.2⟩
  · have h1 := h.eq
    rw [List.flatten_append, List.length_append]
    simp only [List.flatten_cons, List.flatten_nil, List.append_nil, List.length_singleton, List.append_assoc]
    rw [show 2 * D.length + 1 + 7 * (E.length + 1) = 2 * D.length + 1 + 7 * E.length + 7 by omega, ← List.drop_drop (i := 7) (j := 2 * D.length + 1 + 7 * E.length), List.take_append_drop]
    exact h1
  · intro x hm
    rcases List.mem_append.1 hm with hm | hm
    · exact h.ge x hm
    · rw [List.mem_singleton.1 hm]; exact he
  · intro x hm
    rcases List.mem_append.1 hm with hm | hm
    · exact h.ed x hm
    · rw [List.mem_singleton.1 hm]; exact hd
  · rw [List.pairwise_append]
    refine ⟨h.nd, by simp, ?_⟩
    intro x hx y hy e
    rw [List.mem_singleton.1 hy] at e
    exact hn (List.mem_map.2 ⟨x, hx, e⟩)
end Go.Proofs.YtalaldfgjgpacaaGreatDoor
