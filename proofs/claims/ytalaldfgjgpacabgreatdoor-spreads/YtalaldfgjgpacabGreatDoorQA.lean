import Derived.Test.YtalaldfgjgpacabGreatDoorHAD
import Derived.Test.YtalaldfgjgpacabGreatDoorHAI
import Derived.Test.YtalaldfgjgpacabGreatDoorHAU
import Derived.Test.YtalaldfgjgpacabGreatDoorHAW
import Derived.Test.YtalaldfgjgpacabGreatDoorX14
namespace Go.Proofs.YtalaldfgjgpacabGreatDoor
set_option linter.unusedVariables false
set_option linter.unusedSimpArgs false

/-- Over the slots. -/
def sumF (h : Nat × Nat → Int) : Nat → Int
  | 0 => 0
  | k + 1 => sumF h k + h (k / 9, k % 9)
theorem sumF_zero {h : Nat × Nat → Int} (hz : ∀ d, h d = 0) : ∀ k, sumF h k = 0
  | 0 => rfl
  | k + 1 => by rw [sumF, sumF_zero hz k, hz]; rfl
theorem sumF_out (h : Nat × Nat → Int) (d : Nat × Nat) (hd : d.2 < 9) : ∀ k, sumF h k = (if d.1 * 9 + d.2 < k then h d else 0) + sumF (fun x => if x = d then 0 else h x) k
  | 0 => by simp [sumF]
  | k + 1 => by
    have ih := sumF_out h d hd k
    rw [sumF, sumF, ih]
    by_cases c : (k / 9, k % 9) = d
    · have c1 : k / 9 = d.1 := by rw [← c]
      have c2 : k % 9 = d.2 := by rw [← c]
      have e : d.1 * 9 + d.2 = k := by omega
      rw [if_neg (by omega), if_pos (by omega), if_pos c, c]
      omega
    · have e : d.1 * 9 + d.2 ≠ k := by
        intro e
        apply c
        have c1 : k / 9 = d.1 := by omega
        have c2 : k % 9 = d.2 := by omega
        rw [c1, c2]
      rw [if_neg c]
      by_cases c3 : d.1 * 9 + d.2 < k
      · rw [if_pos c3, if_pos (by omega)]; omega
      · rw [if_neg c3, if_neg (by omega)]; omega
/-- A sum over dots is one over the slots. -/
theorem sum_slots : ∀ (ds : List (Nat × Nat)) (h : Nat × Nat → Int), ds.Nodup → (∀ d, d ∈ ds → d.1 < 3 ∧ d.2 < 9) → (∀ d, d ∉ ds → h d = 0) → (ds.map h).sum = sumF h 27
  | [], h, _, _, hz => by
    rw [sumF_zero (fun d => hz d (by simp))]; rfl
  | d :: ds, h, hn, hb, hz => by
    obtain ⟨hd, hn'⟩ := List.nodup_cons.1 hn
    have h1 := hb d (List.mem_cons_self)
    have ih := sum_slots ds (fun x => if x = d then 0 else h x) hn' (fun x hx => hb x (List.mem_cons_of_mem _ hx)) (fun x hx => by
      by_cases c : x = d
      · show (if x = d then 0 else h x) = 0
        rw [if_pos c]
      · show (if x = d then 0 else h x) = 0
        rw [if_neg c]
        exact hz x (fun hm => by rcases List.mem_cons.1 hm with e | e; exact c e; exact hx e))
    rw [sumF_out h d h1.2 27, if_pos (by omega), ← ih, List.map_cons, List.sum_cons]
    congr 2
    refine List.map_congr_left fun x hx => ?_
    rw [if_neg (fun e => hd (by rw [← e]; exact hx))]

/-- Over the events. -/
def ev0 : Ev := ⟨0, 0, 0, 0, 0, 0, Vec.zero⟩
def sumI (evs : List Ev) (f : Ev → Int) : Nat → Int
  | 0 => 0
  | k + 1 => sumI evs f k + f (evs.getD k ev0)
theorem sumI_take (evs : List Ev) (f : Ev → Int) : ∀ k, k ≤ evs.length → sumI evs f k = ((evs.take k).map f).sum
  | 0, _ => by simp [sumI]
  | k + 1, hk => by
    have h : k < evs.length := by omega
    rw [sumI, sumI_take evs f k (by omega), ← List.take_append_getElem h, List.map_append, List.sum_append, List.getD_eq_getElem?_getD, List.getElem?_eq_getElem h]
    simp
theorem sumI_all (evs : List Ev) (f : Ev → Int) : sumI evs f evs.length = (evs.map f).sum := by
  rw [sumI_take evs f _ (Nat.le_refl _), List.take_length]

/-- Has an event that is known taken it away? -/
def takerB (K : Vec) (e f : Ev) : Bool := f.here e && (decide (f.num ≤ K f.who) && decide (e.num ≤ f.seen e.who))
def takenB (evs : List Ev) (K : Vec) (e : Ev) : Bool := evs.any (takerB K e)
/-- Does it lie there, as far as is known? -/
def layB (K : Vec) (c it : Int) (e : Ev) : Bool := e.puts && (e.cart == c && (e.item == it && decide (e.num ≤ K e.who)))
def liesB (evs : List Ev) (K : Vec) (c it : Int) (e : Ev) : Bool := layB K c it e && !takenB evs K e
def cntE (evs : List Ev) (K : Vec) (c it : Int) (k : Nat) : Int := sumI evs (fun e => if liesB evs K c it e then 1 else 0) k
def sumE (evs : List Ev) (K : Vec) (c it : Int) (k : Nat) : Int := sumI evs (fun e => if liesB evs K c it e then e.value else 0) k
theorem cntE_bd (evs : List Ev) (K : Vec) (c it : Int) : ∀ k : Nat, 0 ≤ cntE evs K c it k ∧ cntE evs K c it k ≤ k
  | 0 => by simp [cntE, sumI]
  | k + 1 => by
    have ih := cntE_bd evs K c it k
    unfold cntE at ih ⊢
    rw [sumI]
    split <;> omega
theorem sumE_bd (evs : List Ev) (K : Vec) (c it : Int) (hv : ∀ e, e ∈ evs → -99 ≤ e.value ∧ e.value ≤ 99) : ∀ k : Nat, k ≤ evs.length → -(99 * k : Int) ≤ sumE evs K c it k ∧ sumE evs K c it k ≤ 99 * k
  | 0, _ => by simp [sumE, sumI]
  | k + 1, hk => by
    have ih := sumE_bd evs K c it hv k (by omega)
    unfold sumE at ih ⊢
    rw [sumI]
    have hm : evs.getD k ev0 ∈ evs := by
      rw [List.getD_eq_getElem?_getD, List.getElem?_eq_getElem (by omega)]
      exact List.getElem_mem _
    have := hv _ hm
    split <;> omega

/-- What a cart has, by the events. -/
def meantTo (evs : List Ev) (K : Vec) (c : Int) : Nat → List UInt8
  | 0 => []
  | k + 1 => if 0 < cntE evs K c (k : Int) evs.length then (if (meantTo evs K c k).isEmpty then [] else meantTo evs K c k ++ [44]) ++ [itemB k] ++ Lib.itoa (sumE evs K c (k : Int) evs.length) else meantTo evs K c k

theorem sumTo_F (p : Pc) (c it : Int) : ∀ k, p.sumTo c it k = sumF (fun d => if (p d.1 d.2).isOf c it then (p d.1 d.2).value else 0) k
  | 0 => rfl
  | k + 1 => by rw [Pc.sumTo, sumF, sumTo_F p c it k]; rfl
theorem anyTo_F (p : Pc) (c it : Int) : ∀ k, 0 ≤ sumF (fun d => if (p d.1 d.2).isOf c it then 1 else 0) k ∧ (p.anyTo c it k = true ↔ 0 < sumF (fun d => if (p d.1 d.2).isOf c it then 1 else 0) k)
  | 0 => by simp [Pc.anyTo, sumF]
  | k + 1 => by
    obtain ⟨ih1, ih2⟩ := anyTo_F p c it k
    have e : (p.nth k).isOf c it = (p (k / 9) (k % 9)).isOf c it := rfl
    rw [Pc.anyTo, sumF, e]
    simp only
    by_cases h : (p (k / 9) (k % 9)).isOf c it = true
    · rw [if_pos h, h]
      refine ⟨by omega, ?_⟩
      simp; omega
    · rw [if_neg h]
      have h' : (p (k / 9) (k % 9)).isOf c it = false := by simpa using h
      rw [h', Bool.or_false, Int.add_zero]
      exact ⟨ih1, ih2⟩

section
variable {n : Nat} {p : Nat → Pc} {x : Nat → Ext} {K : Nat → Vec} {evs : List Ev} {wire acks : List Mail} {E : Hist} {V : Nat → Nat → Vec}

theorem taken_gone (hN : Named E) (hE : EvsOk n K E evs) {T : Vec} (hb : Bnd n T) (hn : n ≤ 3) (ht : ∀ w, w < n → T w ≤ K w w) (e : Ev) : takenB evs T e = goneB E T e := by
  obtain ⟨ds, d1, d2, d3⟩ := hE
  rw [Bool.eq_iff_iff]
  show _ ↔ Gone E T e
  rw [gone_iff]
  unfold takenB
  rw [List.any_eq_true, d3]
  constructor
  · rintro ⟨f, hf, hk⟩
    obtain ⟨d, hd, rfl⟩ := List.mem_map.1 hf
    obtain ⟨a, b⟩ := (d2 d).1 hd
    unfold takerB at hk
    simp only [Bool.and_eq_true, decide_eq_true_eq] at hk
    obtain ⟨k1, k2, k3⟩ := hk
    rw [(hN d.1 d.2).1, (hN d.1 d.2).2] at k2
    refine ⟨d.1, d.2, by omega, by omega, ?_⟩
    unfold Ev.takes
    rw [k1, Bool.true_and, decide_eq_true_eq]; exact k3
  · rintro ⟨r, i, hr, hi, ht'⟩
    have hrn : r < n := by
      apply Classical.byContradiction
      intro c
      rw [hb.out r (by omega)] at hi; omega
    refine ⟨E r i, List.mem_map.2 ⟨(r, i), (d2 _).2 ⟨hrn, Nat.lt_of_lt_of_le hi (ht r hrn)⟩, rfl⟩, ?_⟩
    unfold Ev.takes at ht'
    unfold takerB
    simp only [Bool.and_eq_true, decide_eq_true_eq] at ht' ⊢
    rw [(hN r i).1, (hN r i).2]
    exact ⟨ht'.1, by omega, ht'.2⟩

theorem lies_of (hN : Named E) (hE : EvsOk n K E evs) {T : Vec} (hb : Bnd n T) (hn : n ≤ 3) (ht : ∀ w, w < n → T w ≤ K w w) (c it : Int) (r i : Nat) : liesB evs T c it (E r i) = (held E T r i).isOf c it := by
  unfold liesB layB
  rw [taken_gone hN hE hb hn ht, (hN r i).1, (hN r i).2]
  show _ = (heldSl E T r i).isOf c it
  by_cases hi : i < T r
  · by_cases hp : (E r i).puts = true
    · by_cases hg : goneB E T (E r i) = true
      · rw [heldSl_dot hi (fun k => k.2 hg), hg]
        simp [Sl.isOf, Sl.dot]
      · rw [heldSl_fil hi hp hg]
        have hg' : goneB E T (E r i) = false := by simpa using hg
        have hd : decide (i + 1 ≤ T r) = true := decide_eq_true hi
        rw [hg', hp, hd]
        simp [Sl.isOf, Ev.fil]
    · rw [heldSl_dot hi (fun k => hp k.1)]
      have hp' : (E r i).puts = false := by simpa using hp
      rw [hp']; simp [Sl.isOf, Sl.dot]
  · rw [heldSl_zero hi]
    have hd : decide (i + 1 ≤ T r) = false := decide_eq_false hi
    rw [hd]; simp [Sl.isOf, Sl.zero]

theorem evs_sum (hN : Named E) (hE : EvsOk n K E evs) (h9 : ∀ w, w < n → K w w ≤ 9) {T : Vec} (hb : Bnd n T) (hn : n ≤ 3) (ht : ∀ w, w < n → T w ≤ K w w) (c it : Int) (g : Ev → Int) (v : Sl → Int) (hv : ∀ r i, (held E T r i).isOf c it = true → v (held E T r i) = g (E r i)) :
    (evs.map fun e => if liesB evs T c it e then g e else 0).sum = sumF (fun d => if (held E T d.1 d.2).isOf c it then v (held E T d.1 d.2) else 0) 27 := by
  obtain ⟨ds, d1, d2, d3⟩ := hE
  rw [← sum_slots ds _ d1 (fun d hd => by
    obtain ⟨a, b⟩ := (d2 d).1 hd
    have := h9 d.1 a
    exact ⟨by omega, by omega⟩) (fun d hd => by
    have hz : (held E T d.1 d.2).isOf c it = false := by
      have : held E T d.1 d.2 = Sl.zero := by
        refine heldSl_zero fun hi => hd ((d2 d).2 ?_)
        have hrn : d.1 < n := by
          apply Classical.byContradiction
          intro c
          rw [hb.out d.1 (by omega)] at hi; omega
        exact ⟨hrn, Nat.lt_of_lt_of_le hi (ht _ hrn)⟩
      rw [this]; rfl
    rw [hz]; rfl)]
  have hl := fun r i => lies_of hN ⟨ds, d1, d2, d3⟩ hb hn ht c it r i
  have : (evs.map fun e => if liesB evs T c it e then g e else 0) = ds.map fun d => if (held E T d.1 d.2).isOf c it then v (held E T d.1 d.2) else 0 := by
    have e1 : (evs.map fun e => if liesB evs T c it e then g e else 0) = (ds.map fun d => E d.1 d.2).map fun e => if liesB evs T c it e then g e else 0 := congrArg _ d3
    rw [e1, List.map_map]
    refine List.map_congr_left fun d hd => ?_
    show (if liesB evs T c it (E d.1 d.2) then g (E d.1 d.2) else 0) = _
    rw [hl]
    by_cases c1 : (held E T d.1 d.2).isOf c it = true
    · rw [if_pos c1, if_pos c1, hv _ _ c1]
    · rw [if_neg c1, if_neg c1]
  rw [this]

/-- What is meant is what is held. -/
theorem meant_sums (hN : Named E) (hE : EvsOk n K E evs) (h9 : ∀ w, w < n → K w w ≤ 9) {T : Vec} (hb : Bnd n T) (hn : n ≤ 3) (ht : ∀ w, w < n → T w ≤ K w w) (c : Int) : ∀ k, meantTo evs T c k = (held E T).sumsTo c k
  | 0 => rfl
  | k + 1 => by
    have ih := meant_sums hN hE h9 hb hn ht c k
    have h1 : cntE evs T c (k : Int) evs.length = sumF (fun d => if (held E T d.1 d.2).isOf c (k : Int) then 1 else 0) 27 := by
      unfold cntE
      rw [sumI_all]
      exact evs_sum hN hE h9 hb hn ht c k (fun _ => 1) (fun _ => 1) (fun _ _ _ => rfl)
    have h2 : sumE evs T c (k : Int) evs.length = (held E T).sumTo c (k : Int) 27 := by
      unfold sumE
      rw [sumI_all, sumTo_F]
      refine evs_sum hN hE h9 hb hn ht c k (fun e => e.value) (fun s => s.value) (fun r i hs => ?_)
      have t1 := tame_held E T r i
      have hf : (held E T r i).filled = true := by
        unfold Sl.isOf at hs
        simp only [Bool.and_eq_true] at hs; exact hs.1
      have e : held E T r i = heldSl E T r i := rfl
      rw [e] at hf ⊢
      rcases t1 with e | e | e
      · rw [e] at hf; cases hf
      · rw [e] at hf; cases hf
      · rw [e]; rfl
    rw [meantTo, Pc.sumsTo, h1, h2, ih]
    have ha := (anyTo_F (held E T) c (k : Int) 27).2
    by_cases c1 : (held E T).anyTo c (k : Int) 27 = true
    · rw [if_pos c1, if_pos (ha.1 c1)]
    · rw [if_neg c1, if_neg (fun h => c1 (ha.2 h))]
end
end Go.Proofs.YtalaldfgjgpacabGreatDoor

namespace Go.Proofs.YtalaldfgjgpacabGreatDoor
set_option linter.unusedVariables false
set_option linter.unusedSimpArgs false
open Go.RowKit

/-- The events, as they lie. -/
structure EvsIn (w : World) (n : Nat) (ea : Option Addr) (evs : List Ev) (us : Nat → Nat) : Prop where
  cells : ∀ (i : Nat) (e : Ev), evs[i]? = some e → ∃ eg, ea = some ⟨eg, 0, none⟩ ∧ ∀ j, j < 7 → w.cell? ⟨eg, i * 7 + j, none⟩ = (evC e (.slice (some ⟨us i, 0, none⟩) n n))[j]?
  seen : ∀ (i : Nat) (e : Ev), evs[i]? = some e → w.heap[us i]? = some (.cells (intsV (vecL n e.seen)) 3)
  whos : ∀ (i : Nat) (e : Ev), evs[i]? = some e → e.who < n

theorem EvsIn.blw {w w' : World} {n : Nat} {ea : Option Addr} {evs : List Ev} {us : Nat → Nat} (h : EvsIn w n ea evs us) (hb : Blw w w') : EvsIn w' n ea evs us := by
  refine ⟨fun i e he => ?_, fun i e he => hb.bk' (h.seen i e he), h.whos⟩
  obtain ⟨eg, h1, h2⟩ := h.cells i e he
  refine ⟨eg, h1, fun j hj => ?_⟩
  have hx := h2 j hj
  have hlt : eg < w.heap.size := by
    have h0 := h2 0 (by omega)
    exact World.block_lt_of_cell? w ⟨eg, i * 7 + 0, none⟩ (show w.cell? ⟨eg, i * 7 + 0, none⟩ = some _ from h0)
  rw [(bcell hb).1 eg _ hlt]; exact hx

theorem ev_cells {f : Nat → List Value} {l : List Ev} {i : Nat} {e : Ev} {u : Value} (hi : i < l.length) (hf : f i = evC e u) (hl : ∀ j, j < l.length → (f j).length = 7) (j : Nat) (hj : j < 7) : (flatC f l.length)[i * 7 + j]? = (evC e u)[j]? := by
  rw [flatC_get l.length i j hi hj hl, hf]

theorem ClAt.evsIn {w : World} {m : CM} {s : CS} (h : ClAt w m s) (hI : Inv s) : ∃ (ea : Option Addr) (ec : Nat) (us : Nat → Nat), m.ev = .slice ea s.evs.length ec ∧ EvsIn w s.n ea s.evs us := by
  obtain ⟨ea, ec, he, _⟩ := ownsRow_form h.ev.o
  have hch : ∀ i, ∃ u : Nat, ∀ e, s.evs[i]? = some e → m.ef i = evC e (.slice (some ⟨u, 0, none⟩) s.n s.n) ∧ w.heap[u]? = some (.cells (intsV (vecL s.n e.seen)) 3) := by
    intro i
    cases hx : s.evs[i]? with
    | none => exact ⟨0, fun e he => by cases he⟩
    | some e =>
      obtain ⟨v, h1, g, h2, _, h4⟩ := h.ev.i i e hx
      refine ⟨g, fun e' he' => ?_⟩
      obtain rfl : e = e' := Option.some.inj he'
      exact ⟨by rw [h1, h2], h4⟩
  obtain ⟨us, hus⟩ : ∃ us : Nat → Nat, ∀ i e, s.evs[i]? = some e → m.ef i = evC e (.slice (some ⟨us i, 0, none⟩) s.n s.n) ∧ w.heap[us i]? = some (.cells (intsV (vecL s.n e.seen)) 3) :=
    ⟨fun i => Classical.choose (hch i), fun i => Classical.choose_spec (hch i)⟩
  refine ⟨ea, ec, us, he, ?_, fun i e hx => (hus i e hx).2, ?_⟩
  · intro i e hx
    have hi : i < s.evs.length := (List.getElem?_eq_some_iff.1 hx).1
    obtain ⟨g, cap, hv, _, _⟩ := World.ownsRow.form h.ev.o (by omega)
    have hea : ea = some ⟨g, 0, none⟩ := by
      rw [he] at hv
      injection hv
    refine ⟨g, hea, fun j hj => ?_⟩
    have ho := h.ev.o
    rw [hv] at ho
    have h7 : (i + 1) * 7 ≤ s.evs.length * 7 := Nat.mul_le_mul_right _ hi
    rw [ownsRow_cell ho _ (by omega)]
    refine ev_cells hi (hus i e hx).1 (fun k hk => ?_) j hj
    obtain ⟨u, a, _⟩ := h.ev.i k _ (List.getElem?_eq_getElem hk)
    rw [a]; rfl
  · intro i e hx
    obtain ⟨E, V, hC⟩ := hI.core
    obtain ⟨ds, d1, d2, d3⟩ := hC.evs
    rw [d3] at hx
    rw [List.getElem?_map] at hx
    obtain ⟨d, hd, rfl⟩ := Option.map_eq_some_iff.1 hx
    have := ((d2 d).1 (List.mem_of_getElem? hd)).1
    rw [(hC.named d.1 d.2).1]; exact this
end Go.Proofs.YtalaldfgjgpacabGreatDoor

namespace Go.Proofs.YtalaldfgjgpacabGreatDoor
set_option linter.unusedVariables false
set_option linter.unusedSimpArgs false
open Go.RowKit
attribute [local go_sem ↓] Go.wp_at_zero Go.wp_at_succ

theorem rem10 (u : Nat) : Int.tmod (u : Int) 10 = ((u % 10 : Nat) : Int) := rfl
theorem quo10 (u : Nat) : Int.tdiv (u : Int) 10 = ((u / 10 : Nat) : Int) := rfl
set_option maxRecDepth 100000 in
set_option maxHeartbeats 1000000 in
theorem decimal_nat : ∀ (u : Nat), u ≤ 9999 → ∀ w : World, Calls Tryz.prog 63 #[.int .i64 (u : Int)] w fun e w' => e = .returned (.string ⟨(Lib.decDigits u).toArray⟩) ∧ Blw w w' := by
  intro u
  induction u using Nat.strongRecOn with
  | _ u ih =>
    intro hu w
    have hcv := conv1
    have h0 : decide ((u : Int) < 0) = false := by rw [decide_eq_false_iff_not]; omega
    have e1 := rem10 u
    have e2 := quo10 u
    obtain ⟨d, hd⟩ : ∃ d, d = u % 10 := ⟨_, rfl⟩
    obtain ⟨q, hq⟩ : ∃ q, q = u / 10 := ⟨_, rfl⟩
    rw [← hd] at e1
    rw [← hq] at e2
    have hd10 : d < 10 := by omega
    have hq10 : q < 1000 := by omega
    have hdu : UInt8.ofNat (48 + (d : Int)).toNat = UInt8.ofNat (48 + d) := by
      congr 1
    by_cases hlt : u < 10
    · have HX : Hid (Lib.decDigits u = [UInt8.ofNat (48 + d)]) := by
        show Lib.decDigits u = _
        rw [Lib.decDigits_one hlt, hd, Nat.mod_eq_of_lt hlt]
      have hlt' : decide ((u : Int) < 10) = true := by simp; omega
      rw [HX.out]
      have HD := hid hdu
      clear ih hd hq hdu hlt
      go_enter Tryz.func63, Tryz.ntmps63
      go_wp2
      go_ret
      exact ⟨rfl, (Blw.rfl _).al _⟩
    · have HX : Hid (Lib.decDigits u = Lib.decDigits q ++ [UInt8.ofNat (48 + d)]) := by
        show Lib.decDigits u = _
        rw [Lib.decDigits, dif_neg hlt, hd, hq]
      have hlt' : decide ((u : Int) < 10) = false := by simp; omega
      have HI := hid (ih q (by omega) (by omega))
      rw [HX.out]
      have hln : (Lib.decDigits q).length ≤ 10 := by
        have := itoa_len (q : Int) (by omega) (by omega)
        unfold Lib.itoa at this
        rw [if_neg (by omega), Int.toNat_natCast] at this
        omega
      generalize Lib.decDigits q = tx at *
      have HD := hid hdu
      clear ih hd hq hdu hlt
      go_enter Tryz.func63, Tryz.ntmps63
      go_wp2_with fail
      refine (HI.out _).mono ?_
      rintro e w1 ⟨rfl, b1⟩
      have B1 := hid b1
      clear b1
      go_wp2
      go_ret
      exact ⟨by simp [bytes_app], ((Blw.rfl _).al _).tr B1.out⟩

set_option maxRecDepth 100000 in
set_option maxHeartbeats 1000000 in
theorem decimal_any (z : Int) (h0 : -9999 ≤ z) (h1 : z ≤ 9999) (w : World) : Calls Tryz.prog 63 #[.int .i64 z] w fun e w' => e = .returned (.string ⟨(Lib.itoa z).toArray⟩) ∧ Blw w w' := by
  by_cases hz : z < 0
  · obtain ⟨u, hu⟩ : ∃ u : Nat, z = -(u : Int) := ⟨z.natAbs, by omega⟩
    subst hu
    have hI : Lib.itoa (-(u : Int)) = 45 :: Lib.decDigits u := by
      unfold Lib.itoa
      rw [if_pos hz]; simp
    rw [hI]
    have HI := hid (decimal_nat u (by omega))
    have hln : (Lib.decDigits u).length ≤ 10 := by
      have := itoa_len (u : Int) (by omega) (by omega)
      unfold Lib.itoa at this
      rw [if_neg (by omega), Int.toNat_natCast] at this
      omega
    have d0 : decide (-(u : Int) < 0) = true := by simpa using hz
    have d1 : - -(u : Int) = (u : Int) := by omega
    generalize Lib.decDigits u = tx at *
    clear hI
    go_enter Tryz.func63, Tryz.ntmps63
    go_wp2_with fail
    refine (HI.out _).mono ?_
    rintro e w1 ⟨rfl, b1⟩
    have B1 := hid b1
    clear b1
    go_wp2
    go_ret
    exact ⟨by simp [bytes_app], B1.out⟩
  · obtain ⟨u, hu⟩ : ∃ u : Nat, z = (u : Int) := ⟨z.toNat, by omega⟩
    subst hu
    have hI : Lib.itoa (u : Int) = Lib.decDigits u := by
      unfold Lib.itoa
      rw [if_neg hz, Int.toNat_natCast]
    rw [hI]
    exact decimal_nat u (by omega) w
end Go.Proofs.YtalaldfgjgpacabGreatDoor
