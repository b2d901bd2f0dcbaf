import Derived.Test.YtalehfacchjlkaaDoorA1
import Derived.Test.YtalehfacchjlkaaDoorA2
namespace Go.Proofs.YtalehfacchjlkaaDoor
set_option linter.unusedVariables false
set_option linter.unusedSimpArgs false
open Go.RowKit

def t0 : ByteArray := ⟨#[48]⟩

theorem tok_solo (p : Pc) : tokErr 1 p t0.data.toList = 0 := by
  have h1 : isTok 1 t0.data.toList = true := rfl
  have h2 : staleTo p t0.data.toList t0.data.toList.length = false := by
    show staleTo p [48] 1 = false
    simp [staleTo]
  rw [tokErr, h1, h2]; rfl

theorem err_solo {p : Pc} {cn : Nat} (h : Solo p cn) : evErr 0 1 p t0.data.toList = if 9 ≤ cn then 4 else 0 := by
  have := h.count
  rw [evErr, tok_solo, if_pos rfl]
  show (if 9 ≤ p.count 0 then (4 : Int) else 0) = _
  rw [this]

theorem digs_solo {p : Pc} {cn : Nat} (h : Solo p cn) : p.digsTo 1 = [dig cn] := by
  show [] ++ [dig (p.count (0 : Int))] = _
  rw [h.count]; rfl

theorem itoa_dig (cn : Nat) (h : cn < 10) : Lib.itoa (cn : Int) = [dig cn] := by
  rw [Lib.itoa, if_neg (by omega), Int.toNat_natCast, Lib.decDigits, dif_pos h]; rfl

/-- What holds of the replica and its table. -/
structure AT (p : Pc) (cn : Nat) (th : Nat → Bool) (hv : Nat → Int) : Prop where
  solo : Solo p cn
  tab : TabRel p th hv
  out : ∀ k, 12 ≤ k → hv k = 0

theorem AT.bd {p : Pc} {cn : Nat} {th : Nat → Bool} {hv : Nat → Int} (h : AT p cn th hv) : ∀ k, -9999 ≤ hv k ∧ hv k ≤ 9999 := by
  intro k
  by_cases hk : k < 12
  · have := h.tab (k / 4) (k % 4) (by omega) (by omega)
    have e : k / 4 * 4 + k % 4 = k := by omega
    rw [e] at this
    rw [this.2]
    have := sumTo_bd p h.solo.1 ((k / 4 : Nat) : Int) ((k % 4 : Nat) : Int) 27 (by omega)
    omega
  · rw [h.out k (by omega)]; omega

theorem AT.list {p : Pc} {cn : Nat} {th : Nat → Bool} {hv : Nat → Int} (h : AT p cn th hv) (c : Nat) (hc : c < 3) : ∀ k, k ≤ 4 → listTo th hv c k = p.sumsTo c k := by
  intro k
  induction k with
  | zero => intro _; rfl
  | succ k ih =>
    intro hk
    have := h.tab c k hc (by omega)
    rw [listTo, Pc.sumsTo, this.1, this.2, ih (by omega)]

/-- What one of the four calls does to the table: kind, place, value laid or added. -/
def thN (kind : Int) (c it : Nat) (th : Nat → Bool) : Nat → Bool :=
  if kind = 6 then fun k => if k / 4 = c then false else th k else if kind = 5 then fun k => if k = c * 4 + it then false else th k else fun k => if k = c * 4 + it then true else th k
def hvN (kind : Int) (c it : Nat) (v : Int) (hv : Nat → Int) : Nat → Int :=
  if kind = 6 then fun k => if k / 4 = c then 0 else hv k else if kind = 5 then fun k => if k = c * 4 + it then 0 else hv k else if kind = 4 then fun k => if k = c * 4 + it then v else hv k else fun k => if k = c * 4 + it then hv k - v else hv k

/-- What a call's answer and the replica behind it are. -/
def EvOut (kind : Int) (c it : Nat) (v : Int) (p : Pc) (cn : Nat) (th : Nat → Bool) (hv : Nat → Int) (p' : Pc) (tx : List UInt8) (ee : Int) : Prop :=
  (cn = 9 ∧ p' = p ∧ tx = [] ∧ ee = 4) ∨ (cn < 9 ∧ tx = [dig (cn + 1)] ∧ ee = 0 ∧ AT p' (cn + 1) (thN kind c it th) (hvN kind c it v hv))

theorem solo_put {p q : Pc} {cn : Nat} {th : Nat → Bool} {hv : Nat → Int} (kind : Int) (c it : Nat) (v v' : Int) (h : AT p cn th hv)
    (hq : cn < 9 → AT (p.join (q.put 0 cn ⟨true, true, c, it, v'⟩)) (cn + 1) (thN kind c it th) (hvN kind c it v hv)) :
    EvOut kind c it v p cn th hv (evPut 0 1 p q t0.data.toList c it v') (evTok 0 1 p (evPut 0 1 p q t0.data.toList c it v') t0.data.toList) (evErr 0 1 p t0.data.toList) := by
  have h9 := h.solo.2.1
  have hct : p.count ((0 : Nat) : Int) = cn := h.solo.count
  rw [evTok, evPut, err_solo h.solo, hct]
  by_cases hc : cn = 9
  · left; rw [if_pos (show 9 ≤ cn by omega)]; exact ⟨hc, by simp, by simp, rfl⟩
  · right; rw [if_neg (show ¬ 9 ≤ cn by omega)]
    have := hq (by omega)
    refine ⟨by omega, ?_, rfl, ?_⟩
    · simp only [if_true]; exact digs_solo this.solo
    · simp only [if_true]; exact this
theorem solo_take {p q : Pc} {cn : Nat} {th : Nat → Bool} {hv : Nat → Int} (kind : Int) (c it : Nat) (v : Int) (h : AT p cn th hv)
    (hq : cn < 9 → AT (p.join (q.put 0 cn { q 0 cn with known := true })) (cn + 1) (thN kind c it th) (hvN kind c it v hv)) :
    EvOut kind c it v p cn th hv (evTake 0 1 p q t0.data.toList) (evTok 0 1 p (evTake 0 1 p q t0.data.toList) t0.data.toList) (evErr 0 1 p t0.data.toList) := by
  have h9 := h.solo.2.1
  have hct : p.count ((0 : Nat) : Int) = cn := h.solo.count
  rw [evTok, evTake, err_solo h.solo, hct]
  by_cases hc : cn = 9
  · left; rw [if_pos (show 9 ≤ cn by omega)]; exact ⟨hc, by simp, by simp, rfl⟩
  · right; rw [if_neg (show ¬ 9 ≤ cn by omega)]
    have := hq (by omega)
    refine ⟨by omega, ?_, rfl, ?_⟩
    · simp only [if_true]; exact digs_solo this.solo
    · simp only [if_true]; exact this

/-- The four calls at one replica by itself. -/
theorem add_solo {p : Pc} {cn : Nat} {th : Nat → Bool} {hv : Nat → Int} (b c it : Nat) (v : Int) (w : World) (h : AT p cn th hv) (hb : w.heap[b]? = some (.cells (repArr 0 1 p) 65)) (hc : c < 3) (hi : it < 4) (hv0 : 0 ≤ v) (hv1 : v ≤ 99) :
    Calls Tryd.prog 8 #[.pointer (some ⟨b, 0, none⟩), .string t0, .int .i64 c, .int .i64 it, .int .i64 (-v)] w fun e w' =>
      ∃ p' tx ee, e = .returned (.tuple #[.string ⟨tx.toArray⟩, .int .i64 ee]) ∧ EvOut 3 c it v p cn th hv p' tx ee ∧ RepTo b 0 1 p' w w' := by
  refine (add_yes b 0 1 p t0 c it (-v) w (by decide) (by decide) (by decide) hb (by omega) (by omega) (by omega) (by omega) (by omega) (by omega)).mono ?_
  rintro e w' ⟨rfl, hr⟩
  refine ⟨_, _, _, rfl, solo_put 3 c it v (-v) h (fun h9 => ?_), hr⟩
  obtain ⟨s1, s2⟩ := ev_add h.solo h9 h.tab c it (-v) hc hi (by omega) (by omega)
  refine ⟨s1, ?_, fun k hk => ?_⟩
  · exact s2
  · show (if k = c * 4 + it then hv k - v else hv k) = 0
    rw [if_neg (by omega)]; exact h.out k hk
theorem set_solo {p : Pc} {cn : Nat} {th : Nat → Bool} {hv : Nat → Int} (b c it : Nat) (v : Int) (w : World) (h : AT p cn th hv) (hb : w.heap[b]? = some (.cells (repArr 0 1 p) 65)) (hc : c < 3) (hi : it < 4) (hv0 : 0 ≤ v) (hv1 : v ≤ 99) :
    Calls Tryd.prog 9 #[.pointer (some ⟨b, 0, none⟩), .string t0, .int .i64 c, .int .i64 it, .int .i64 v] w fun e w' =>
      ∃ p' tx ee, e = .returned (.tuple #[.string ⟨tx.toArray⟩, .int .i64 ee]) ∧ EvOut 4 c it v p cn th hv p' tx ee ∧ RepTo b 0 1 p' w w' := by
  refine (set_yes b 0 1 p t0 c it v w (by decide) (by decide) (by decide) hb (by omega) (by omega) (by omega) (by omega) (by omega) (by omega)).mono ?_
  rintro e w' ⟨rfl, hr⟩
  refine ⟨_, _, _, rfl, solo_put 4 c it v v h (fun h9 => ?_), hr⟩
  obtain ⟨s1, s2⟩ := ev_set h.solo h9 h.tab c it v hc hi (by omega) (by omega)
  refine ⟨s1, ?_, fun k hk => ?_⟩
  · exact s2
  · show (if k = c * 4 + it then v else hv k) = 0
    rw [if_neg (by omega)]; exact h.out k hk
theorem remove_solo {p : Pc} {cn : Nat} {th : Nat → Bool} {hv : Nat → Int} (b c it : Nat) (v : Int) (w : World) (h : AT p cn th hv) (hb : w.heap[b]? = some (.cells (repArr 0 1 p) 65)) (hc : c < 3) (hi : it < 4) :
    Calls Tryd.prog 10 #[.pointer (some ⟨b, 0, none⟩), .string t0, .int .i64 c, .int .i64 it] w fun e w' =>
      ∃ p' tx ee, e = .returned (.tuple #[.string ⟨tx.toArray⟩, .int .i64 ee]) ∧ EvOut 5 c it v p cn th hv p' tx ee ∧ RepTo b 0 1 p' w w' := by
  refine (remove_yes b 0 1 p t0 c it w (by decide) (by decide) (by decide) hb (by omega) (by omega) (by omega) (by omega)).mono ?_
  rintro e w' ⟨rfl, hr⟩
  refine ⟨_, _, _, rfl, solo_take 5 c it v h (fun h9 => ?_), hr⟩
  obtain ⟨s1, s2⟩ := ev_remove h.solo h9 h.tab c it hc hi
  refine ⟨s1, ?_, fun k hk => ?_⟩
  · exact s2
  · show (if k = c * 4 + it then 0 else hv k) = 0
    rw [if_neg (by omega)]; exact h.out k hk
theorem clear_solo {p : Pc} {cn : Nat} {th : Nat → Bool} {hv : Nat → Int} (b c it : Nat) (v : Int) (w : World) (h : AT p cn th hv) (hb : w.heap[b]? = some (.cells (repArr 0 1 p) 65)) (hc : c < 3) :
    Calls Tryd.prog 11 #[.pointer (some ⟨b, 0, none⟩), .string t0, .int .i64 c] w fun e w' =>
      ∃ p' tx ee, e = .returned (.tuple #[.string ⟨tx.toArray⟩, .int .i64 ee]) ∧ EvOut 6 c it v p cn th hv p' tx ee ∧ RepTo b 0 1 p' w w' := by
  refine (clear_yes b 0 1 p t0 c w (by decide) (by decide) (by decide) hb (by omega) (by omega)).mono ?_
  rintro e w' ⟨rfl, hr⟩
  refine ⟨_, _, _, rfl, solo_take 6 c it v h (fun h9 => ?_), hr⟩
  obtain ⟨s1, s2⟩ := ev_clear h.solo h9 h.tab c hc
  refine ⟨s1, ?_, fun k hk => ?_⟩
  · exact s2
  · show (if k / 4 = c then 0 else hv k) = 0
    rw [if_neg (by omega)]; exact h.out k hk
theorem read_solo {p : Pc} {cn : Nat} {th : Nat → Bool} {hv : Nat → Int} (b c : Nat) (w : World) (h : AT p cn th hv) (hb : w.heap[b]? = some (.cells (repArr 0 1 p) 65)) (hc : c < 3) (ht : Tab Tryd.prog w) :
    Calls Tryd.prog 12 #[.pointer (some ⟨b, 0, none⟩), .string t0, .int .i64 c] w fun e w' =>
      (∃ tk : List UInt8, e = .returned (.tuple #[.string ⟨(listTo th hv c 4).toArray⟩, .string ⟨tk.toArray⟩, .int .i64 0])) ∧ Blw w w' := by
  refine (read_yes b 0 1 p t0 c w (by decide) (by decide) h.solo.1 ht hb (by omega) (by omega) (tok_solo p)).mono ?_
  rintro e w' ⟨rfl, hr⟩
  rw [h.list c hc 4 (by omega)]
  exact ⟨⟨_, rfl⟩, hr⟩
theorem at_start : AT Pc.empty 0 (fun _ => false) (fun _ => 0) := ⟨solo_start.1, solo_start.2, fun _ _ => rfl⟩
end Go.Proofs.YtalehfacchjlkaaDoor
