import Derived.Test.YtalaldfgjgpacaaDoorXA
import Derived.Test.YtalaldfgjgpacaaDoorXB
namespace Go.Proofs.YtalaldfgjgpacaaDoor
set_option linter.unusedVariables false
set_option linter.unusedSimpArgs false
open Go.RowKit

def t0 : ByteArray := ⟨#[48]⟩

theorem tok_solo (p : Pc) : tokErr 1 p t0.data.toList = 0 := by
  have h1 : isTok 1 t0.data.toList = true := rfl
  have h2 : staleTo p t0.data.toList t0.data.toList.length = false := by
    show staleTo p [48] 1 = false
    simp [staleTo]
  rw [tokErr, h1, h2]; rfl

theorem err_solo {p : Pc} {cn : Nat} (h : Solo p cn) : evErr 0 1 p t0.data.toList = if 9 ≤ cn then 4 else 0 := by
  have := h.count
  rw [evErr, tok_solo, if_pos rfl]
  show (if 9 ≤ p.count 0 then (4 : Int) else 0) = _
  rw [this]

theorem digs_solo {p : Pc} {cn : Nat} (h : Solo p cn) : p.digsTo 1 = [dig cn] := by
  show [] ++ [dig (p.count (0 : Int))] = _
  rw [h.count]; rfl

theorem itoa_dig (cn : Nat) (h : cn < 10) : Lib.itoa (cn : Int) = [dig cn] := by
  rw [Lib.itoa, if_neg (by omega), Int.toNat_natCast, Lib.decDigits, dif_pos h]; rfl

/-- What holds of the replica and its table. -/
structure AT (p : Pc) (cn : Nat) (th : Nat → Bool) (hv : Nat → Int) : Prop where
  solo : Solo p cn
  tab : TabRel p th hv
  out : ∀ k, 12 ≤ k → hv k = 0

theorem AT.bd {p : Pc} {cn : Nat} {th : Nat → Bool} {hv : Nat → Int} (h : AT p cn th hv) : ∀ k, -9999 ≤ hv k ∧ hv k ≤ 9999 := by
  intro k
  by_cases hk : k < 12
  · have := h.tab (k / 4) (k % 4) (by omega) (by omega)
    have e : k / 4 * 4 + k % 4 = k := by omega
    rw [e] at this
    rw [this.2]
    have := sumTo_bd p h.solo.1 ((k / 4 : Nat) : Int) ((k % 4 : Nat) : Int) 27 (by omega)
    omega
  · rw [h.out k (by omega)]; omega

theorem AT.list {p : Pc} {cn : Nat} {th : Nat → Bool} {hv : Nat → Int} (h : AT p cn th hv) (c : Nat) (hc : c < 3) : ∀ k, k ≤ 4 → listTo th hv c k = p.sumsTo c k := by
  intro k
  induction k with
  | zero => intro _; rfl
  | succ k ih =>
    intro hk
    have := h.tab c k hc (by omega)
    rw [listTo, Pc.sumsTo, this.1, this.2, ih (by omega)]

/-- What one of the four calls does to the table: kind, place, value laid or added. -/
def thN (kind : Int) (c it : Nat) (th : Nat → Bool) : Nat → Bool :=
  if kind = 6 then fun k => if k / 4 = c then false else th k else if kind = 5 then fun k => if k = c * 4 + it then false else th k else fun k => if k = c * 4 + it then true else th k
def hvN (kind : Int) (c it : Nat) (v : Int) (hv : Nat → Int) : Nat → Int :=
  if kind = 6 then fun k => if k / 4 = c then 0 else hv k else if kind = 5 then fun k => if k = c * 4 + it then 0 else hv k else if kind = 4 then fun k => if k = c * 4 + it then v else hv k else fun k => if k = c * 4 + it then hv k - v else hv k

/-- What a call's answer and the replica behind it are. -/
def EvOut (kind : Int) (c it : Nat) (v : Int) (p : Pc) (cn : Nat) (th : Nat → Bool) (hv : Nat → Int) (p' : Pc) (tx : List UInt8) (ee : Int) : Prop :=
  (cn = 9 ∧ p' = p ∧ tx = [] ∧ ee = 4) ∨ (cn < 9 ∧ tx = [dig (cn + 1)] ∧ ee = 0 ∧ AT p' (cn + 1) (thN kind c it th) (hvN kind c it v hv))

theorem solo_put {p q : Pc} {cn : Nat} {th : Nat → Bool} {hv : Nat → Int} (kind : Int) (c it : Nat) (v v' : Int) (h : AT p cn th hv)
    (hq : cn < 9 → AT (p.join (q.put 0 cn ⟨true, true, c, it, v'⟩)) (cn + 1) (thN kind c it th) (hvN kind c it v hv)) :
    EvOut kind c it v p cn th hv (evPut 0 1 p q t0.data.toList c it v') (evTok 0 1 p (evPut 0 1 p q t0.data.toList c it v') t0.data.toList) (evErr 0 1 p t0.data.toList) := by
  have h9 := h.solo.2.1
  have hct : p.count ((0 : Nat) : Int) = cn := h.solo.count
  rw [evTok, evPut, err_solo h.solo, hct]
  by_cases hc : cn = 9
  · left; rw [if_pos (show 9 ≤ cn by omega)]; exact ⟨hc, by simp, by simp, rfl⟩
  · right; rw [if_neg (show ¬ 9 ≤ cn by omega)]
    have := hq (by omega)
    refine ⟨by omega, ?_, rfl, ?_⟩
    · simp only [if_true]; exact digs_solo this.solo
    · simp only [if_true]; exact this
theorem solo_take {p q : Pc} {cn : Nat} {th : Nat → Bool} {hv : Nat → Int} (kind : Int) (c it : Nat) (v : Int) (h : AT p cn th hv)
    (hq : cn < 9 → AT (p.join (q.put 0 cn { q 0 cn with known := true })) (cn + 1) (thN kind c it th) (hvN kind c it v hv)) :
    EvOut kind c it v p cn th hv (evTake 0 1 p q t0.data.toList) (evTok 0 1 p (evTake 0 1 p q t0.data.toList) t0.data.toList) (evErr 0 1 p t0.data.toList) := by
  have h9 := h.solo.2.1
  have hct : p.count ((0 : Nat) : Int) = cn := h.solo.count
  rw [evTok, evTake, err_solo h.solo, hct]
  by_cases hc : cn = 9
  · left; rw [if_pos (show 9 ≤ cn by omega)]; exact ⟨hc, by simp, by simp, rfl⟩
  · right; rw [if_neg (show ¬ 9 ≤ cn by omega)]
    have := hq (by omega)
    refine ⟨by omega, ?_, rfl, ?_⟩
    · simp only [if_true]; exact digs_solo this.solo
    · simp only [if_true]; exact this

/-- A replica by itself; no more deltas and bytes than its events make. -/
def RepB (b : Nat) (p : Pc) (w : World) : Prop := ∃ x : Ext, x.had ≤ p.count ((0 : Nat) : Int) ∧ x.log.length ≤ 400 * p.count ((0 : Nat) : Int) ∧ w.heap[b]? = some (.cells (repArr 0 1 p x) 67)
def RepT (b : Nat) (p : Pc) (w w' : World) : Prop := RepB b p w' ∧ Bx b w w'
theorem RepB.on {b : Nat} {p : Pc} {w w' : World} (h : RepB b p w) (hb : Blw w w') : RepB b p w' := by
  obtain ⟨x, h1, h2, h3⟩ := h
  exact ⟨x, h1, h2, hb.bk' h3⟩
theorem RepB.kept {b : Nat} {p : Pc} {w w' : World} (h : RepB b p w) (hb : w'.heap[b]? = w.heap[b]?) : RepB b p w' := by
  obtain ⟨x, h1, h2, h3⟩ := h
  exact ⟨x, h1, h2, hb.trans h3⟩
theorem RepB.lt {b : Nat} {p : Pc} {w : World} (h : RepB b p w) : b < w.heap.size := by
  obtain ⟨x, _, _, h3⟩ := h
  exact lt_of_blk h3
theorem small_of {p : Pc} {x : Ext} (h1 : x.had ≤ p.count ((0 : Nat) : Int)) (h2 : x.log.length ≤ 400 * p.count ((0 : Nat) : Int)) : x.small := by
  have := Pc.count_le p ((0 : Nat) : Int)
  exact ⟨by omega, by omega⟩
theorem next_len (x : Ext) (q : Pc) (hq : q.ok) : (x.next q).had = x.had + 1 ∧ (x.next q).log.length ≤ x.log.length + 400 := by
  refine ⟨rfl, ?_⟩
  have := text_len' q hq
  simp only [Ext.next, List.length_append, frameL_len, List.length_singleton]; omega
/-- What an event makes of the rest. -/
theorem repB_of {kind : Int} {c it : Nat} {v : Int} {p p' q : Pc} {cn : Nat} {th : Nat → Bool} {hv : Nat → Int} {tx : List UInt8} {ee : Int} {b : Nat} {x x' : Ext} {w w' : World} (h : AT p cn th hv) (hE : EvOut kind c it v p cn th hv p' tx ee)
    (h1 : x.had ≤ p.count ((0 : Nat) : Int)) (h2 : x.log.length ≤ 400 * p.count ((0 : Nat) : Int)) (hx : x' = if ee = 0 then x.next q else x) (hq : q.ok) (hr : RepTo b 0 1 p' x' w w') : RepT b p' w w' := by
  have hct : p.count ((0 : Nat) : Int) = cn := h.solo.count
  refine ⟨⟨x', ?_, ?_, hr.1⟩, hr.2⟩
  · rcases hE with ⟨_, rfl, _, e⟩ | ⟨_, _, e, k⟩
    · rw [hx, if_neg (by rw [e]; decide)]; exact h1
    · have hk : p'.count ((0 : Nat) : Int) = cn + 1 := k.solo.count
      rw [hx, if_pos e, (next_len x q hq).1, hk]; omega
  · rcases hE with ⟨_, rfl, _, e⟩ | ⟨_, _, e, k⟩
    · rw [hx, if_neg (by rw [e]; decide)]; exact h2
    · have hk : p'.count ((0 : Nat) : Int) = cn + 1 := k.solo.count
      rw [hx, if_pos e, hk]; have := (next_len x q hq).2; omega

/-- The four calls at one replica by itself. -/
theorem add_solo {p : Pc} {cn : Nat} {th : Nat → Bool} {hv : Nat → Int} (b c it : Nat) (v : Int) (w : World) (h : AT p cn th hv) (hb : RepB b p w) (hc : c < 3) (hi : it < 4) (hv0 : 0 ≤ v) (hv1 : v ≤ 99) (ht : Tab Tryd.prog w) :
    Calls Tryd.prog 8 #[.pointer (some ⟨b, 0, none⟩), .string t0, .int .i64 c, .int .i64 it, .int .i64 (-v)] w fun e w' =>
      ∃ p' tx ee, e = .returned (.tuple #[.string ⟨tx.toArray⟩, .int .i64 ee]) ∧ EvOut 3 c it v p cn th hv p' tx ee ∧ RepT b p' w w' := by
  obtain ⟨x, x1, x2, hb⟩ := hb
  refine (add_yes (xt := x) b 0 1 p t0 c it (-v) w (by decide) (by decide) (by decide) hb (by omega) (by omega) (by omega) (by omega) (by omega) (by omega) (small_of x1 x2) ht).mono ?_
  rintro e w' ⟨rfl, hr⟩
  have hE : EvOut 3 c it v p cn th hv (evPut 0 1 p Pc.empty t0.data.toList c it (-v)) (evTok 0 1 p (evPut 0 1 p Pc.empty t0.data.toList c it (-v)) t0.data.toList) (evErr 0 1 p t0.data.toList) := solo_put 3 c it v (-v) h (fun h9 => ?_)
  · exact ⟨_, _, _, rfl, hE, repB_of h hE x1 x2 rfl (ok_put ok_empty _ _ (by omega) (by omega) (by omega) (by omega) (by omega) (by omega)) hr⟩
  obtain ⟨s1, s2⟩ := ev_add h.solo h9 h.tab c it (-v) hc hi (by omega) (by omega)
  refine ⟨s1, ?_, fun k hk => ?_⟩
  · exact s2
  · show (if k = c * 4 + it then hv k - v else hv k) = 0
    rw [if_neg (by omega)]; exact h.out k hk
theorem set_solo {p : Pc} {cn : Nat} {th : Nat → Bool} {hv : Nat → Int} (b c it : Nat) (v : Int) (w : World) (h : AT p cn th hv) (hb : RepB b p w) (hc : c < 3) (hi : it < 4) (hv0 : 0 ≤ v) (hv1 : v ≤ 99) (ht : Tab Tryd.prog w) :
    Calls Tryd.prog 9 #[.pointer (some ⟨b, 0, none⟩), .string t0, .int .i64 c, .int .i64 it, .int .i64 v] w fun e w' =>
      ∃ p' tx ee, e = .returned (.tuple #[.string ⟨tx.toArray⟩, .int .i64 ee]) ∧ EvOut 4 c it v p cn th hv p' tx ee ∧ RepT b p' w w' := by
  obtain ⟨x, x1, x2, hb⟩ := hb
  refine (set_yes (xt := x) b 0 1 p t0 c it v w (by decide) (by decide) (by decide) hb (by omega) (by omega) (by omega) (by omega) (by omega) (by omega) (small_of x1 x2) ht).mono ?_
  rintro e w' ⟨rfl, hr⟩
  have hE : EvOut 4 c it v p cn th hv (evPut 0 1 p (p.dotsOf c it) t0.data.toList c it v) (evTok 0 1 p (evPut 0 1 p (p.dotsOf c it) t0.data.toList c it v) t0.data.toList) (evErr 0 1 p t0.data.toList) := solo_put 4 c it v v h (fun h9 => ?_)
  · exact ⟨_, _, _, rfl, hE, repB_of h hE x1 x2 rfl (ok_put (ok_dotsOf p c it) _ _ (by omega) (by omega) (by omega) (by omega) (by omega) (by omega)) hr⟩
  obtain ⟨s1, s2⟩ := ev_set h.solo h9 h.tab c it v hc hi (by omega) (by omega)
  refine ⟨s1, ?_, fun k hk => ?_⟩
  · exact s2
  · show (if k = c * 4 + it then v else hv k) = 0
    rw [if_neg (by omega)]; exact h.out k hk
theorem remove_solo {p : Pc} {cn : Nat} {th : Nat → Bool} {hv : Nat → Int} (b c it : Nat) (v : Int) (w : World) (h : AT p cn th hv) (hb : RepB b p w) (hc : c < 3) (hi : it < 4) (ht : Tab Tryd.prog w) :
    Calls Tryd.prog 10 #[.pointer (some ⟨b, 0, none⟩), .string t0, .int .i64 c, .int .i64 it] w fun e w' =>
      ∃ p' tx ee, e = .returned (.tuple #[.string ⟨tx.toArray⟩, .int .i64 ee]) ∧ EvOut 5 c it v p cn th hv p' tx ee ∧ RepT b p' w w' := by
  obtain ⟨x, x1, x2, hb⟩ := hb
  refine (remove_yes (xt := x) b 0 1 p t0 c it w (by decide) (by decide) (by decide) hb (by omega) (by omega) (by omega) (by omega) (small_of x1 x2) ht).mono ?_
  rintro e w' ⟨rfl, hr⟩
  have hE : EvOut 5 c it v p cn th hv (evTake 0 1 p (p.dotsOf c it) t0.data.toList) (evTok 0 1 p (evTake 0 1 p (p.dotsOf c it) t0.data.toList) t0.data.toList) (evErr 0 1 p t0.data.toList) := solo_take 5 c it v h (fun h9 => ?_)
  · exact ⟨_, _, _, rfl, hE, repB_of h hE x1 x2 rfl (ok_putk (ok_dotsOf p c it) _ _) hr⟩
  obtain ⟨s1, s2⟩ := ev_remove h.solo h9 h.tab c it hc hi
  refine ⟨s1, ?_, fun k hk => ?_⟩
  · exact s2
  · show (if k = c * 4 + it then 0 else hv k) = 0
    rw [if_neg (by omega)]; exact h.out k hk
theorem clear_solo {p : Pc} {cn : Nat} {th : Nat → Bool} {hv : Nat → Int} (b c it : Nat) (v : Int) (w : World) (h : AT p cn th hv) (hb : RepB b p w) (hc : c < 3) (ht : Tab Tryd.prog w) :
    Calls Tryd.prog 11 #[.pointer (some ⟨b, 0, none⟩), .string t0, .int .i64 c] w fun e w' =>
      ∃ p' tx ee, e = .returned (.tuple #[.string ⟨tx.toArray⟩, .int .i64 ee]) ∧ EvOut 6 c it v p cn th hv p' tx ee ∧ RepT b p' w w' := by
  obtain ⟨x, x1, x2, hb⟩ := hb
  refine (clear_yes (xt := x) b 0 1 p t0 c w (by decide) (by decide) (by decide) hb (by omega) (by omega) (small_of x1 x2) ht).mono ?_
  rintro e w' ⟨rfl, hr⟩
  have hE : EvOut 6 c it v p cn th hv (evTake 0 1 p (p.cartTo c 4) t0.data.toList) (evTok 0 1 p (evTake 0 1 p (p.cartTo c 4) t0.data.toList) t0.data.toList) (evErr 0 1 p t0.data.toList) := solo_take 6 c it v h (fun h9 => ?_)
  · exact ⟨_, _, _, rfl, hE, repB_of h hE x1 x2 rfl (ok_putk (ok_cartTo p c 4) _ _) hr⟩
  obtain ⟨s1, s2⟩ := ev_clear h.solo h9 h.tab c hc
  refine ⟨s1, ?_, fun k hk => ?_⟩
  · exact s2
  · show (if k / 4 = c then 0 else hv k) = 0
    rw [if_neg (by omega)]; exact h.out k hk
theorem read_solo {p : Pc} {cn : Nat} {th : Nat → Bool} {hv : Nat → Int} (b c : Nat) (w : World) (h : AT p cn th hv) (hb : RepB b p w) (hc : c < 3) (ht : Tab Tryd.prog w) :
    Calls Tryd.prog 12 #[.pointer (some ⟨b, 0, none⟩), .string t0, .int .i64 c] w fun e w' =>
      (∃ tk : List UInt8, e = .returned (.tuple #[.string ⟨(listTo th hv c 4).toArray⟩, .string ⟨tk.toArray⟩, .int .i64 0])) ∧ Blw w w' := by
  obtain ⟨x, x1, x2, hb⟩ := hb
  refine (read_yes (xt := x) b 0 1 p t0 c w (by decide) (by decide) h.solo.1 ht hb (by omega) (by omega) (tok_solo p)).mono ?_
  rintro e w' ⟨rfl, hr⟩
  rw [h.list c hc 4 (by omega)]
  exact ⟨⟨_, rfl⟩, hr⟩
theorem at_start : AT Pc.empty 0 (fun _ => false) (fun _ => 0) := ⟨solo_start.1, solo_start.2, fun _ _ => rfl⟩
end Go.Proofs.YtalaldfgjgpacaaDoor

namespace Go.Proofs.YtalaldfgjgpacaaDoor
set_option linter.unusedVariables false
set_option linter.unusedSimpArgs false
open Go.RowKit

theorem mk28 (w : World) : (Instr.makeSlice 28 (.int .i64 12) (.int .i64 12)).run Tryd.prog w = .ok (.slice (some ⟨w.heap.size, 0, none⟩) 12 12) (w.alloc (.cells (boolArr fun _ => false) 4)) := by kernel_rfl
theorem mk29 (w : World) : (Instr.makeSlice 29 (.int .i64 12) (.int .i64 12)).run Tryd.prog w = .ok (.slice (some ⟨w.heap.size, 0, none⟩) 12 12) (w.alloc (.cells (intArr fun _ => 0) 3)) := by kernel_rfl

theorem Bx.keep {b : Nat} {a w : World} (h : Bx b a w) {k : Nat} {o : Obj} (hk : a.heap[k]? = some o) (hb : k ≠ b) : w.heap[k]? = some o := (h.block k (lt_of_blk hk) hb).trans hk

/-- The replica and its tables in the world. -/
structure AW (b : Nat) (w : World) (p : Pc) (cn : Nat) (th : Nat → Bool) (hv : Nat → Int) (wr : World) : Prop where
  tb : AT p cn th hv
  rep : RepB b p wr
  th : wr.heap[b + 1]? = some (.cells (boolArr th) 4)
  hv : wr.heap[b + 1 + 1]? = some (.cells (intArr hv) 3)
  blw : Blw w wr
theorem AW.go {b : Nat} {w wr wr' : World} {p : Pc} {cn : Nat} {th : Nat → Bool} {hv : Nat → Int} (h : AW b w p cn th hv wr) (hb : Blw wr wr') : AW b w p cn th hv wr' :=
  ⟨h.tb, h.rep.on hb, hb.bk' h.th, hb.bk' h.hv, h.blw.tr hb⟩

theorem add_solo' {p : Pc} {cn : Nat} {th : Nat → Bool} {hv : Nat → Int} (b c it : Nat) (v x y : Int) (w : World) (h : AT p cn th hv) (hb : RepB b p w) (hc : c < 3) (hi : it < 4) (hv0 : 0 ≤ v) (hv1 : v ≤ 99) (hx : x = it) (hy : y = -v) (ht : Tab Tryd.prog w) :
    Calls Tryd.prog 8 #[.pointer (some ⟨b, 0, none⟩), .string ⟨#[48]⟩, .int .i64 c, .int .i64 x, .int .i64 y] w fun e w' =>
      ∃ p' tx ee, e = .returned (.tuple #[.string ⟨tx.toArray⟩, .int .i64 ee]) ∧ EvOut 3 c it v p cn th hv p' tx ee ∧ RepT b p' w w' := by
  subst hx hy; exact add_solo b c it v w h hb hc hi hv0 hv1 ht
theorem set_solo' {p : Pc} {cn : Nat} {th : Nat → Bool} {hv : Nat → Int} (b c it : Nat) (v x : Int) (w : World) (h : AT p cn th hv) (hb : RepB b p w) (hc : c < 3) (hi : it < 4) (hv0 : 0 ≤ v) (hv1 : v ≤ 99) (hx : x = it) (ht : Tab Tryd.prog w) :
    Calls Tryd.prog 9 #[.pointer (some ⟨b, 0, none⟩), .string ⟨#[48]⟩, .int .i64 c, .int .i64 x, .int .i64 v] w fun e w' =>
      ∃ p' tx ee, e = .returned (.tuple #[.string ⟨tx.toArray⟩, .int .i64 ee]) ∧ EvOut 4 c it v p cn th hv p' tx ee ∧ RepT b p' w w' := by
  subst hx; exact set_solo b c it v w h hb hc hi hv0 hv1 ht
theorem remove_solo' {p : Pc} {cn : Nat} {th : Nat → Bool} {hv : Nat → Int} (b c it : Nat) (v x : Int) (w : World) (h : AT p cn th hv) (hb : RepB b p w) (hc : c < 3) (hi : it < 4) (hx : x = it) (ht : Tab Tryd.prog w) :
    Calls Tryd.prog 10 #[.pointer (some ⟨b, 0, none⟩), .string ⟨#[48]⟩, .int .i64 c, .int .i64 x] w fun e w' =>
      ∃ p' tx ee, e = .returned (.tuple #[.string ⟨tx.toArray⟩, .int .i64 ee]) ∧ EvOut 5 c it v p cn th hv p' tx ee ∧ RepT b p' w w' := by
  subst hx; exact remove_solo b c it v w h hb hc hi ht
theorem dec_solo (cn : Nat) (x : Int) (w : World) (h : cn < 9) (hx : x = ((cn + 1 : Nat) : Int)) : Calls Tryd.prog 14 #[.int .i64 x] w fun e w' => e = .returned (.string ⟨([dig (cn + 1)] : List UInt8).toArray⟩) ∧ Blw w w' := by
  subst hx; rw [← itoa_dig (cn + 1) (by omega)]; exact decimal_any _ _ (by omega) (by omega)
theorem Bx.blwA {c : Nat} {a0 a w' : World} (h : Bx c a w') (h0 : Blw a0 a) (hc : a0.heap.size ≤ c) : Blw a0 w' :=
  ⟨h.os.trans h0.os, h.tape.trans h0.tape, h.output.trans h0.output, Nat.le_trans h0.sz h.size, fun k hk => (h.block k (Nat.lt_of_lt_of_le hk h0.sz) (by omega)).trans (h0.block k hk)⟩

theorem pk (c n : Int) (hn : 0 < n) : ∃ k : Nat, pickN c n = k ∧ (k : Int) < n := by
  obtain ⟨h0, h1⟩ := pickN_bd c n hn
  exact ⟨(pickN c n).toNat, by omega, by omega⟩

/-- The replica, its tables and the step in the world. -/
structure TW (b ob : Nat) (kind : Int) (w : World) (p : Pc) (th : Nat → Bool) (hv : Nat → Int) (wr : World) : Prop where
  rep : RepB b p wr
  th : wr.heap[b + 1]? = some (.cells (boolArr th) 4)
  hv : wr.heap[b + 1 + 1]? = some (.cells (intArr hv) 3)
  blw : Blw w wr
  lo : w.heap.size ≤ b
  hob : b + 2 < ob
  sz : ob < wr.heap.size
  o0 : wr.cell? ⟨ob, 0, none⟩ = some (.int .i64 kind)
theorem TW.go {b ob : Nat} {kind : Int} {w wr wr' : World} {p : Pc} {th : Nat → Bool} {hv : Nat → Int} (h : TW b ob kind w p th hv wr) (hb : Blw wr wr') : TW b ob kind w p th hv wr' :=
  ⟨h.rep.on hb, hb.bk' h.th, hb.bk' h.hv, h.blw.tr hb, h.lo, h.hob, Nat.lt_of_lt_of_le h.sz hb.sz, by rw [World.cell?_of_block (w := wr) (a := ⟨ob, 0, none⟩) (hb.bk _ h.sz)]; exact h.o0⟩
theorem bool_set (th : Nat → Bool) (k : Nat) (x : Bool) : (boolArr th).setIfInBounds k (.bool x) = boolArr (fun j => if j = k then x else th j) := by
  refine Array.ext_getElem? fun j => ?_
  rw [Array.getElem?_setIfInBounds]
  by_cases hj : j < 12
  · rw [boolArr_at _ _ hj, boolArr_at _ _ hj]
    by_cases e : k = j
    · subst e; simp [boolArr, hj]
    · rw [if_neg e, if_neg (Ne.symm e)]
  · by_cases e : k = j
    · subst e; simp [boolArr, hj]
    · rw [if_neg e]; simp [boolArr, hj]
theorem int_set (hv : Nat → Int) (k : Nat) (x : Int) : (intArr hv).setIfInBounds k (.int .i64 x) = intArr (fun j => if j = k then x else hv j) := by
  refine Array.ext_getElem? fun j => ?_
  rw [Array.getElem?_setIfInBounds]
  by_cases hj : j < 12
  · rw [intArr_at _ _ hj, intArr_at _ _ hj]
    by_cases e : k = j
    · subst e; simp [intArr, hj]
    · rw [if_neg e, if_neg (Ne.symm e)]
  · by_cases e : k = j
    · subst e; simp [intArr, hj]
    · rw [if_neg e]; simp [intArr, hj]
theorem TW.setT {b ob : Nat} {kind : Int} {w wr : World} {p : Pc} {th : Nat → Bool} {hv : Nat → Int} (h : TW b ob kind w p th hv wr) (k : Nat) (x : Bool) : TW b ob kind w p (fun j => if j = k then x else th j) hv (wr.setCell ⟨b + 1, k, none⟩ (.bool x)) := by
  have ho := h.hob
  have hlo := h.lo
  refine ⟨?_, ?_, ?_, h.blw.sc _ _ _ (by omega), hlo, ho, ?_, ?_⟩
  · exact h.rep.kept (Below.heap_setCell _ _ _ _ (by simp))
  · rw [heap_setCell_self h.th, bool_set]
  · rw [Below.heap_setCell _ _ _ _ (by simp)]; exact h.hv
  · simp [World.setCell]; exact h.sz
  · rw [World.cell?_of_block (w := wr) (a := ⟨ob, 0, none⟩) (Below.heap_setCell _ _ _ _ (by simp; omega))]; exact h.o0
theorem TW.setH {b ob : Nat} {kind : Int} {w wr : World} {p : Pc} {th : Nat → Bool} {hv : Nat → Int} (h : TW b ob kind w p th hv wr) (k : Nat) (x : Int) : TW b ob kind w p th (fun j => if j = k then x else hv j) (wr.setCell ⟨b + 1 + 1, k, none⟩ (.int .i64 x)) := by
  have ho := h.hob
  have hlo := h.lo
  refine ⟨?_, ?_, ?_, h.blw.sc _ _ _ (by omega), hlo, ho, ?_, ?_⟩
  · exact h.rep.kept (Below.heap_setCell _ _ _ _ (by simp; omega))
  · rw [Below.heap_setCell _ _ _ _ (by simp)]; exact h.th
  · rw [heap_setCell_self h.hv, int_set]
  · simp [World.setCell]; exact h.sz
  · rw [World.cell?_of_block (w := wr) (a := ⟨ob, 0, none⟩) (Below.heap_setCell _ _ _ _ (by simp; omega))]; exact h.o0
theorem TW.cT {b ob : Nat} {kind : Int} {w wr : World} {p : Pc} {th : Nat → Bool} {hv : Nat → Int} (h : TW b ob kind w p th hv wr) {k : Nat} (hk : k < 12) : wr.cell? ⟨b + 1, k, none⟩ = some (.bool (th k)) := by rw [blk_cell h.th, boolArr_at _ _ hk]
theorem TW.cH {b ob : Nat} {kind : Int} {w wr : World} {p : Pc} {th : Nat → Bool} {hv : Nat → Int} (h : TW b ob kind w p th hv wr) {k : Nat} (hk : k < 12) : wr.cell? ⟨b + 1 + 1, k, none⟩ = some (.int .i64 (hv k)) := by rw [blk_cell h.hv, intArr_at _ _ hk]

def kT (kl : Nat → Bool) (m : Nat) (th : Nat → Bool) : Nat → Bool := fun j => if j < m ∧ kl j = true then false else th j
def kH (kl : Nat → Bool) (m : Nat) (hv : Nat → Int) : Nat → Int := fun j => if j < m ∧ kl j = true then 0 else hv j
theorem TW.zero {b ob : Nat} {kind : Int} {w wr : World} {p : Pc} {th : Nat → Bool} {hv : Nat → Int} (kl : Nat → Bool) (h : TW b ob kind w p th hv wr) : TW b ob kind w p (kT kl 0 th) (kH kl 0 hv) wr := by
  have e1 : kT kl 0 th = th := by funext j; simp [kT]
  have e2 : kH kl 0 hv = hv := by funext j; simp [kH]
  rw [e1, e2]; exact h
theorem TW.pass {b ob : Nat} {kind : Int} {w wr : World} {p : Pc} {th : Nat → Bool} {hv : Nat → Int} {kl : Nat → Bool} {m : Nat} (h : TW b ob kind w p (kT kl m th) (kH kl m hv) wr) (hk : kl m = false) : TW b ob kind w p (kT kl (m + 1) th) (kH kl (m + 1) hv) wr := by
  have hh : ∀ j, (j < m + 1 ∧ kl j = true) ↔ (j < m ∧ kl j = true) := fun j => by
    constructor
    · rintro ⟨h1, h2⟩
      refine ⟨?_, h2⟩
      have : j ≠ m := fun e => by subst e; rw [hk] at h2; cases h2
      omega
    · rintro ⟨h1, h2⟩; exact ⟨by omega, h2⟩
  have e1 : kT kl (m + 1) th = kT kl m th := by funext j; simp only [kT, hh]
  have e2 : kH kl (m + 1) hv = kH kl m hv := by funext j; simp only [kH, hh]
  rw [e1, e2]; exact h
theorem TW.kill {b ob : Nat} {kind : Int} {w wr : World} {p : Pc} {th : Nat → Bool} {hv : Nat → Int} {kl : Nat → Bool} {m : Nat} (h : TW b ob kind w p (kT kl m th) (kH kl m hv) wr) (hk : kl m = true) :
    TW b ob kind w p (kT kl (m + 1) th) (kH kl (m + 1) hv) ((wr.setCell ⟨b + 1, m, none⟩ (.bool false)).setCell ⟨b + 1 + 1, m, none⟩ (.int .i64 0)) := by
  have := (h.setT m false).setH m 0
  have e1 : (fun j => if j = m then false else kT kl m th j) = kT kl (m + 1) th := by
    funext j
    by_cases e : j = m
    · subst e; simp [kT, hk]
    · have : (j < m + 1) ↔ (j < m) := by omega
      simp [kT, e, this]
  have e2 : (fun j => if j = m then 0 else kH kl m hv j) = kH kl (m + 1) hv := by
    funext j
    by_cases e : j = m
    · subst e; simp [kH, hk]
    · have : (j < m + 1) ↔ (j < m) := by omega
      simp [kH, e, this]
  rw [e1, e2] at this; exact this
theorem TW.aw {b ob cn : Nat} {kind : Int} {w wr : World} {p : Pc} {th th' : Nat → Bool} {hv hv' : Nat → Int} (h : TW b ob kind w p th hv wr) (ha : AT p cn th' hv') (h1 : ∀ j, j < 12 → th j = th' j) (h2 : ∀ j, j < 12 → hv j = hv' j) : AW b w p cn th' hv' wr := by
  have e1 : boolArr th = boolArr th' := by
    unfold boolArr; congr 1; refine List.map_congr_left fun j hj => ?_
    rw [h1 j (by simpa using hj)]
  have e2 : intArr hv = intArr hv' := by
    unfold intArr; congr 1; refine List.map_congr_left fun j hj => ?_
    rw [h2 j (by simpa using hj)]
  exact ⟨ha, h.rep, e1 ▸ h.th, e2 ▸ h.hv, h.blw⟩
end Go.Proofs.YtalaldfgjgpacaaDoor
