import Derived.Test.YtalehfacchjlkaaDoorW21
import Derived.Test.YtalehfacchjlkaaDoorA3
namespace Go.Proofs.YtalehfacchjlkaaDoor
set_option linter.unusedVariables false
set_option linter.unusedSimpArgs false
open Go.RowKit

theorem mk28 (w : World) : (Instr.makeSlice 28 (.int .i64 12) (.int .i64 12)).run Tryd.prog w = .ok (.slice (some ⟨w.heap.size, 0, none⟩) 12 12) (w.alloc (.cells (boolArr fun _ => false) 4)) := by kernel_rfl
theorem mk29 (w : World) : (Instr.makeSlice 29 (.int .i64 12) (.int .i64 12)).run Tryd.prog w = .ok (.slice (some ⟨w.heap.size, 0, none⟩) 12 12) (w.alloc (.cells (intArr fun _ => 0) 3)) := by kernel_rfl

/-- The replica and its tables in the world. -/
structure AW (b : Nat) (w : World) (p : Pc) (cn : Nat) (th : Nat → Bool) (hv : Nat → Int) (wr : World) : Prop where
  tb : AT p cn th hv
  rep : wr.heap[b]? = some (.cells (repArr 0 1 p) 65)
  th : wr.heap[b + 1]? = some (.cells (boolArr th) 4)
  hv : wr.heap[b + 1 + 1]? = some (.cells (intArr hv) 3)
  blw : Blw w wr
theorem AW.go {b : Nat} {w wr wr' : World} {p : Pc} {cn : Nat} {th : Nat → Bool} {hv : Nat → Int} (h : AW b w p cn th hv wr) (hb : Blw wr wr') : AW b w p cn th hv wr' :=
  ⟨h.tb, hb.bk' h.rep, hb.bk' h.th, hb.bk' h.hv, h.blw.tr hb⟩

theorem add_solo' {p : Pc} {cn : Nat} {th : Nat → Bool} {hv : Nat → Int} (b c it : Nat) (v x y : Int) (w : World) (h : AT p cn th hv) (hb : w.heap[b]? = some (.cells (repArr 0 1 p) 65)) (hc : c < 3) (hi : it < 4) (hv0 : 0 ≤ v) (hv1 : v ≤ 99) (hx : x = it) (hy : y = -v) :
    Calls Tryd.prog 8 #[.pointer (some ⟨b, 0, none⟩), .string ⟨#[48]⟩, .int .i64 c, .int .i64 x, .int .i64 y] w fun e w' =>
      ∃ p' tx ee, e = .returned (.tuple #[.string ⟨tx.toArray⟩, .int .i64 ee]) ∧ EvOut 3 c it v p cn th hv p' tx ee ∧ RepTo b 0 1 p' w w' := by
  subst hx hy; exact add_solo b c it v w h hb hc hi hv0 hv1
theorem set_solo' {p : Pc} {cn : Nat} {th : Nat → Bool} {hv : Nat → Int} (b c it : Nat) (v x : Int) (w : World) (h : AT p cn th hv) (hb : w.heap[b]? = some (.cells (repArr 0 1 p) 65)) (hc : c < 3) (hi : it < 4) (hv0 : 0 ≤ v) (hv1 : v ≤ 99) (hx : x = it) :
    Calls Tryd.prog 9 #[.pointer (some ⟨b, 0, none⟩), .string ⟨#[48]⟩, .int .i64 c, .int .i64 x, .int .i64 v] w fun e w' =>
      ∃ p' tx ee, e = .returned (.tuple #[.string ⟨tx.toArray⟩, .int .i64 ee]) ∧ EvOut 4 c it v p cn th hv p' tx ee ∧ RepTo b 0 1 p' w w' := by
  subst hx; exact set_solo b c it v w h hb hc hi hv0 hv1
theorem remove_solo' {p : Pc} {cn : Nat} {th : Nat → Bool} {hv : Nat → Int} (b c it : Nat) (v x : Int) (w : World) (h : AT p cn th hv) (hb : w.heap[b]? = some (.cells (repArr 0 1 p) 65)) (hc : c < 3) (hi : it < 4) (hx : x = it) :
    Calls Tryd.prog 10 #[.pointer (some ⟨b, 0, none⟩), .string ⟨#[48]⟩, .int .i64 c, .int .i64 x] w fun e w' =>
      ∃ p' tx ee, e = .returned (.tuple #[.string ⟨tx.toArray⟩, .int .i64 ee]) ∧ EvOut 5 c it v p cn th hv p' tx ee ∧ RepTo b 0 1 p' w w' := by
  subst hx; exact remove_solo b c it v w h hb hc hi
theorem dec_solo (cn : Nat) (x : Int) (w : World) (h : cn < 9) (hx : x = ((cn + 1 : Nat) : Int)) : Calls Tryd.prog 14 #[.int .i64 x] w fun e w' => e = .returned (.string ⟨([dig (cn + 1)] : List UInt8).toArray⟩) ∧ Blw w w' := by
  subst hx; rw [← itoa_dig (cn + 1) (by omega)]; exact decimal_any _ _ (by omega) (by omega)
theorem Bx.blwA {c : Nat} {a0 a w' : World} (h : Bx c a w') (h0 : Blw a0 a) (hc : a0.heap.size ≤ c) : Blw a0 w' :=
  ⟨h.os.trans h0.os, h.tape.trans h0.tape, h.output.trans h0.output, Nat.le_trans h0.sz h.size, fun k hk => (h.block k (Nat.lt_of_lt_of_le hk h0.sz) (by omega)).trans (h0.block k hk)⟩

theorem pk (c n : Int) (hn : 0 < n) : ∃ k : Nat, pickN c n = k ∧ (k : Int) < n := by
  obtain ⟨h0, h1⟩ := pickN_bd c n hn
  exact ⟨(pickN c n).toNat, by omega, by omega⟩

/-- The replica, its tables and the step in the world. -/
structure TW (b ob : Nat) (kind : Int) (w : World) (p : Pc) (th : Nat → Bool) (hv : Nat → Int) (wr : World) : Prop where
  rep : wr.heap[b]? = some (.cells (repArr 0 1 p) 65)
  th : wr.heap[b + 1]? = some (.cells (boolArr th) 4)
  hv : wr.heap[b + 1 + 1]? = some (.cells (intArr hv) 3)
  blw : Blw w wr
  lo : w.heap.size ≤ b
  hob : b + 2 < ob
  sz : ob < wr.heap.size
  o0 : wr.cell? ⟨ob, 0, none⟩ = some (.int .i64 kind)
theorem TW.go {b ob : Nat} {kind : Int} {w wr wr' : World} {p : Pc} {th : Nat → Bool} {hv : Nat → Int} (h : TW b ob kind w p th hv wr) (hb : Blw wr wr') : TW b ob kind w p th hv wr' :=
  ⟨hb.bk' h.rep, hb.bk' h.th, hb.bk' h.hv, h.blw.tr hb, h.lo, h.hob, Nat.lt_of_lt_of_le h.sz hb.sz, by rw [World.cell?_of_block (w := wr) (a := ⟨ob, 0, none⟩) (hb.bk _ h.sz)]; exact h.o0⟩
theorem bool_set (th : Nat → Bool) (k : Nat) (x : Bool) : (boolArr th).setIfInBounds k (.bool x) = boolArr (fun j => if j = k then x else th j) := by
  refine Array.ext_getElem? fun j => ?_
  rw [Array.getElem?_setIfInBounds]
  by_cases hj : j < 12
  · rw [boolArr_at _ _ hj, boolArr_at _ _ hj]
    by_cases e : k = j
    · subst e; simp [boolArr, hj]
    · rw [if_neg e, if_neg (Ne.symm e)]
  · by_cases e : k = j
    · subst e; simp [boolArr, hj]
    · rw [if_neg e]; simp [boolArr, hj]
theorem int_set (hv : Nat → Int) (k : Nat) (x : Int) : (intArr hv).setIfInBounds k (.int .i64 x) = intArr (fun j => if j = k then x else hv j) := by
  refine Array.ext_getElem? fun j => ?_
  rw [Array.getElem?_setIfInBounds]
  by_cases hj : j < 12
  · rw [intArr_at _ _ hj, intArr_at _ _ hj]
    by_cases e : k = j
    · subst e; simp [intArr, hj]
    · rw [if_neg e, if_neg (Ne.symm e)]
  · by_cases e : k = j
    · subst e; simp [intArr, hj]
    · rw [if_neg e]; simp [intArr, hj]
theorem TW.setT {b ob : Nat} {kind : Int} {w wr : World} {p : Pc} {th : Nat → Bool} {hv : Nat → Int} (h : TW b ob kind w p th hv wr) (k : Nat) (x : Bool) : TW b ob kind w p (fun j => if j = k then x else th j) hv (wr.setCell ⟨b + 1, k, none⟩ (.bool x)) := by
  have ho := h.hob
  have hlo := h.lo
  refine ⟨?_, ?_, ?_, h.blw.sc _ _ _ (by omega), hlo, ho, ?_, ?_⟩
  · rw [Below.heap_setCell _ _ _ _ (by simp)]; exact h.rep
  · rw [heap_setCell_self h.th, bool_set]
  · rw [Below.heap_setCell _ _ _ _ (by simp)]; exact h.hv
  · simp [World.setCell]; exact h.sz
  · rw [World.cell?_of_block (w := wr) (a := ⟨ob, 0, none⟩) (Below.heap_setCell _ _ _ _ (by simp; omega))]; exact h.o0
theorem TW.setH {b ob : Nat} {kind : Int} {w wr : World} {p : Pc} {th : Nat → Bool} {hv : Nat → Int} (h : TW b ob kind w p th hv wr) (k : Nat) (x : Int) : TW b ob kind w p th (fun j => if j = k then x else hv j) (wr.setCell ⟨b + 1 + 1, k, none⟩ (.int .i64 x)) := by
  have ho := h.hob
  have hlo := h.lo
  refine ⟨?_, ?_, ?_, h.blw.sc _ _ _ (by omega), hlo, ho, ?_, ?_⟩
  · rw [Below.heap_setCell _ _ _ _ (by simp; omega)]; exact h.rep
  · rw [Below.heap_setCell _ _ _ _ (by simp)]; exact h.th
  · rw [heap_setCell_self h.hv, int_set]
  · simp [World.setCell]; exact h.sz
  · rw [World.cell?_of_block (w := wr) (a := ⟨ob, 0, none⟩) (Below.heap_setCell _ _ _ _ (by simp; omega))]; exact h.o0
theorem TW.cT {b ob : Nat} {kind : Int} {w wr : World} {p : Pc} {th : Nat → Bool} {hv : Nat → Int} (h : TW b ob kind w p th hv wr) {k : Nat} (hk : k < 12) : wr.cell? ⟨b + 1, k, none⟩ = some (.bool (th k)) := by rw [blk_cell h.th, boolArr_at _ _ hk]
theorem TW.cH {b ob : Nat} {kind : Int} {w wr : World} {p : Pc} {th : Nat → Bool} {hv : Nat → Int} (h : TW b ob kind w p th hv wr) {k : Nat} (hk : k < 12) : wr.cell? ⟨b + 1 + 1, k, none⟩ = some (.int .i64 (hv k)) := by rw [blk_cell h.hv, intArr_at _ _ hk]

def kT (kl : Nat → Bool) (m : Nat) (th : Nat → Bool) : Nat → Bool := fun j => if j < m ∧ kl j = true then false else th j
def kH (kl : Nat → Bool) (m : Nat) (hv : Nat → Int) : Nat → Int := fun j => if j < m ∧ kl j = true then 0 else hv j
theorem TW.zero {b ob : Nat} {kind : Int} {w wr : World} {p : Pc} {th : Nat → Bool} {hv : Nat → Int} (kl : Nat → Bool) (h : TW b ob kind w p th hv wr) : TW b ob kind w p (kT kl 0 th) (kH kl 0 hv) wr := by
  have e1 : kT kl 0 th = th := by funext j; simp [kT]
  have e2 : kH kl 0 hv = hv := by funext j; simp [kH]
  rw [e1, e2]; exact h
theorem TW.pass {b ob : Nat} {kind : Int} {w wr : World} {p : Pc} {th : Nat → Bool} {hv : Nat → Int} {kl : Nat → Bool} {m : Nat} (h : TW b ob kind w p (kT kl m th) (kH kl m hv) wr) (hk : kl m = false) : TW b ob kind w p (kT kl (m + 1) th) (kH kl (m + 1) hv) wr := by
  have hh : ∀ j, (j < m + 1 ∧ kl j = true) ↔ (j < m ∧ kl j = true) := fun j => by
    constructor
    · rintro ⟨h1, h2⟩
      refine ⟨?_, h2⟩
      have : j ≠ m := fun e => by subst e; rw [hk] at h2; cases h2
      omega
    · rintro ⟨h1, h2⟩; exact ⟨by omega, h2⟩
  have e1 : kT kl (m + 1) th = kT kl m th := by funext j; simp only [kT, hh]
  have e2 : kH kl (m + 1) hv = kH kl m hv := by funext j; simp only [kH, hh]
  rw [e1, e2]; exact h
theorem TW.kill {b ob : Nat} {kind : Int} {w wr : World} {p : Pc} {th : Nat → Bool} {hv : Nat → Int} {kl : Nat → Bool} {m : Nat} (h : TW b ob kind w p (kT kl m th) (kH kl m hv) wr) (hk : kl m = true) :
    TW b ob kind w p (kT kl (m + 1) th) (kH kl (m + 1) hv) ((wr.setCell ⟨b + 1, m, none⟩ (.bool false)).setCell ⟨b + 1 + 1, m, none⟩ (.int .i64 0)) := by
  have := (h.setT m false).setH m 0
  have e1 : (fun j => if j = m then false else kT kl m th j) = kT kl (m + 1) th := by
    funext j
    by_cases e : j = m
    · subst e; simp [kT, hk]
    · have : (j < m + 1) ↔ (j < m) := by omega
      simp [kT, e, this]
  have e2 : (fun j => if j = m then 0 else kH kl m hv j) = kH kl (m + 1) hv := by
    funext j
    by_cases e : j = m
    · subst e; simp [kH, hk]
    · have : (j < m + 1) ↔ (j < m) := by omega
      simp [kH, e, this]
  rw [e1, e2] at this; exact this
theorem TW.aw {b ob cn : Nat} {kind : Int} {w wr : World} {p : Pc} {th th' : Nat → Bool} {hv hv' : Nat → Int} (h : TW b ob kind w p th hv wr) (ha : AT p cn th' hv') (h1 : ∀ j, j < 12 → th j = th' j) (h2 : ∀ j, j < 12 → hv j = hv' j) : AW b w p cn th' hv' wr := by
  have e1 : boolArr th = boolArr th' := by
    unfold boolArr; congr 1; refine List.map_congr_left fun j hj => ?_
    rw [h1 j (by simpa using hj)]
  have e2 : intArr hv = intArr hv' := by
    unfold intArr; congr 1; refine List.map_congr_left fun j hj => ?_
    rw [h2 j (by simpa using hj)]
  exact ⟨ha, h.rep, e1 ▸ h.th, e2 ▸ h.hv, h.blw⟩
end Go.Proofs.YtalehfacchjlkaaDoor
