import Derived.Test.YtkeanpabacfdlaaGreatDoorW7
import Derived.Test.YtkeanpabacfdlaaGreatDoorQ6
namespace Go.Proofs.YtkeanpabacfdlaaGreatDoor
set_option linter.unusedVariables false
set_option linter.unusedSimpArgs false
open Go.RowKit

theorem nodup_le {α : Type} [BEq α] [LawfulBEq α] : ∀ (l m : List α), l.Nodup → (∀ x ∈ l, x ∈ m) → l.length ≤ m.length := by
  intro l
  induction l with
  | nil => intro m _ _; simp
  | cons x l ih =>
    intro m hn hs
    rw [List.nodup_cons] at hn
    have hx := hs x List.mem_cons_self
    have := ih (m.erase x) hn.2 (fun y hy => by
      rw [List.mem_erase_of_ne (fun e => hn.1 (by rw [← e]; exact hy))]
      exact hs y (List.mem_cons_of_mem _ hy))
    rw [List.length_erase_of_mem hx] at this
    have hp : 0 < m.length := List.length_pos_of_mem hx
    simp only [List.length_cons]; omega

theorem dlTo_len (p : Pc) (n : Nat) : (p.dlTo n).length ≤ n := by
  induction n with
  | zero => simp [Pc.dlTo]
  | succ n ih => rw [Pc.dlTo, List.length_append]; split <;> simp <;> omega

theorem RelP.lenD {p : Pc} {D E : List Bs} (h : RelP p D E) (hp : p.ok) : D.length ≤ 27 := by rw [h.eqD hp]; exact dlTo_len p 27

theorem RelP.lenE {p : Pc} {D E : List Bs} (h : RelP p D E) (hp : p.ok) : E.length ≤ 27 := by
  have h1 : (E.map dotOf).Nodup := List.pairwise_map.2 (h.ents_dots hp)
  have h2 := nodup_le (E.map dotOf) D h1 (fun x hx => by
    obtain ⟨e, he, rfl⟩ := List.mem_map.1 hx
    obtain ⟨r, i, hr, hi, hf, rfl⟩ := (h.me _).1 he
    exact (h.md _).2 ⟨r, i, hr, hi, (hp r i hr hi hf).1, rfl⟩)
  rw [List.length_map] at h2
  have := h.lenD hp; omega

theorem RelP.e7 {p : Pc} {D E : List Bs} (h : RelP p D E) : ∀ x ∈ E, x.length = 7 := fun x hx => by
  obtain ⟨r, i, _, _, _, rfl⟩ := (h.me _).1 hx; rfl
theorem RelP.d2 {p : Pc} {D E : List Bs} (h : RelP p D E) : ∀ x ∈ D, ∃ c0 c1 : UInt8, x = [c0, c1] ∧ 48 ≤ c0.toNat := fun x hx => by
  obtain ⟨r, i, hr, _, _, rfl⟩ := (h.md _).1 hx
  exact ⟨_, _, rfl, by rw [dig_toNat r (by omega)]; omega⟩

theorem RelP.pcAt {p : Pc} {D E : List Bs} (h : RelP p D E) (hp : p.ok) {w : World} {a b : Value} (ha : Ls w 0 a D) (hb : Ls w 0 b E) : PcAt w a b D E :=
  ⟨ha, hb, by have := h.lenD hp; omega, by have := h.lenE hp; omega, h.e7, h.d2⟩

theorem elAll_flat (p : Pc) (n : Nat) : (p.elAll n).flatten = p.entTo n := by
  induction n with
  | zero => rfl
  | succ n ih => rw [Pc.elAll, Pc.entTo, List.flatten_append, ih, textTo_flat]

theorem flat_len (E : List Bs) (m : Nat) (h : ∀ x ∈ E, x.length = m) : E.flatten.length = m * E.length := by
  induction E with
  | nil => simp
  | cons x E ih =>
    rw [List.flatten_cons, List.length_append, ih (fun y hy => h y (List.mem_cons_of_mem _ hy)), h x List.mem_cons_self, List.length_cons, Nat.mul_succ]; omega

/-- A piece as text. -/
def Pc.text (p : Pc) : Bs := p.dtTo 27 ++ [59] ++ p.entTo 12

theorem entTo_len' (p : Pc) (hp : p.ok) : (p.entTo 12).length ≤ 189 := by
  have h := rel_lists p hp
  rw [← elAll_flat, flat_len _ 7 h.e7]
  have := h.lenE hp; omega
theorem text_len' (p : Pc) (hp : p.ok) : p.text.length ≤ 244 := by
  have h1 := entTo_len' p hp
  have h2 := dtTo_len p 27
  simp only [Pc.text, List.length_append, List.length_singleton]; omega

theorem RelP.write {p : Pc} {D E : List Bs} (h : RelP p D E) (hp : p.ok) : writeL D E = p.text := by
  unfold writeL Pc.text
  rw [h.eqD hp, h.eqE hp, dtTo_flat, elAll_flat]

theorem RelP.tok {p : Pc} {D E : List Bs} (h : RelP p D E) (hp : p.ok) (n : Nat) : tokL D n = p.digsTo n := by
  induction n with
  | zero => rfl
  | succ n ih =>
    have hc := Pc.count_le p (n : Int)
    rw [tokL, Pc.digsTo, ih, h.known hp, Nat.mod_eq_of_lt (by omega)]
theorem RelP.ents {p : Pc} {D E : List Bs} (h : RelP p D E) (hp : p.ok) : E.flatten = p.entTo 12 := by rw [h.eqE hp, elAll_flat]

/-- A frame. -/
def frameL (l : Bs) : Bs := lastD l.length 3 ++ l
theorem frameL_len (l : Bs) : (frameL l).length = 3 + l.length := by simp [frameL, lastD_len]
theorem three_last (d : Nat) (h : d < 1000) : [dig (d / 100), dig (d / 10 % 10), dig (d % 10)] = lastD d 3 := by
  simp only [lastD, Nat.pow_zero, Nat.div_one, Nat.pow_one]
  have : d / 10 ^ 2 % 10 = d / 100 := by simp; omega
  rw [this]

end Go.Proofs.YtkeanpabacfdlaaGreatDoor
