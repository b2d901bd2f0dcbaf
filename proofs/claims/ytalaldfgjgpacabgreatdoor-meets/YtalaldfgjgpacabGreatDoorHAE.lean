import Derived.Test.YtalaldfgjgpacabGreatDoorHAB
import Derived.Test.YtalaldfgjgpacabGreatDoorHAD
import Derived.Test.YtalaldfgjgpacabGreatDoorProg
import Derived.KernelRfl
namespace Go.Proofs.YtalaldfgjgpacabGreatDoor
set_option linter.unusedVariables false
set_option linter.unusedSimpArgs false

/-- An event: who, its number, what it was asked, and what its replica knew ahead of it. -/
structure Ev where
  who : Nat
  num : Nat
  kind : Int
  cart : Int
  item : Int
  value : Int
  seen : Nat → Nat

abbrev Vec : Type := Nat → Nat
abbrev Hist : Type := Nat → Nat → Ev

/-- What an event lays into a cart. -/
def Ev.puts (e : Ev) : Bool := e.kind == 3 || e.kind == 4
/-- Does an event take away what another one laid? -/
def Ev.here (f e : Ev) : Bool := f.cart == e.cart && (f.kind == 6 || f.item == e.item && (f.kind == 4 || f.kind == 5))
def Ev.takes (f e : Ev) : Bool := f.here e && decide (e.num ≤ f.seen e.who)
def Ev.fil (e : Ev) : Sl := ⟨true, true, e.cart, e.item, e.value⟩

def Vec.sup (K U : Vec) : Vec := fun r => max (K r) (U r)
def Vec.le (K U : Vec) : Prop := ∀ r, K r ≤ U r
theorem Vec.le.rfl' (K : Vec) : Vec.le K K := fun _ => Nat.le_refl _
theorem Vec.le.tr {A B C : Vec} (h : Vec.le A B) (k : Vec.le B C) : Vec.le A C := fun r => Nat.le_trans (h r) (k r)
theorem Vec.le_sup_l (K U : Vec) : Vec.le K (Vec.sup K U) := fun r => Nat.le_max_left _ _
theorem Vec.le_sup_r (K U : Vec) : Vec.le U (Vec.sup K U) := fun r => Nat.le_max_right _ _
theorem Vec.sup_of_le {K U : Vec} (h : Vec.le U K) : Vec.sup K U = K := funext fun r => Nat.max_eq_left (h r)
theorem Vec.sup_of_le' {K U : Vec} (h : Vec.le K U) : Vec.sup K U = U := funext fun r => Nat.max_eq_right (h r)
theorem Vec.sup_le {K U X : Vec} (h : Vec.le K X) (k : Vec.le U X) : Vec.le (Vec.sup K U) X := fun r => Nat.max_le.2 ⟨h r, k r⟩
def Vec.zero : Vec := fun _ => 0

/-- Whatever an event that is known had seen is known. -/
def Closed (E : Hist) (K : Vec) : Prop := ∀ r i, i < K r → Vec.le (E r i).seen K

/-- Has an event that is known taken it away? -/
def goneB (E : Hist) (K : Vec) (e : Ev) : Bool := (List.range 3).any fun r => (List.range (K r)).any fun i => (E r i).takes e
abbrev Gone (E : Hist) (K : Vec) (e : Ev) : Prop := goneB E K e = true
theorem gone_iff {E : Hist} {K : Vec} {e : Ev} : Gone E K e ↔ ∃ r i, r < 3 ∧ i < K r ∧ (E r i).takes e = true := by
  unfold Gone goneB
  simp only [List.any_eq_true, List.mem_range]
  constructor
  · rintro ⟨r, hr, i, hi, ht⟩; exact ⟨r, i, hr, hi, ht⟩
  · rintro ⟨r, i, hr, hi, ht⟩; exact ⟨r, hr, i, hi, ht⟩

/-- What is held of a dot by who knows so much. -/
def heldSl (E : Hist) (K : Vec) (r i : Nat) : Sl := if i < K r then (if (E r i).puts = true ∧ ¬ Gone E K (E r i) then (E r i).fil else Sl.dot) else Sl.zero
def held (E : Hist) (K : Vec) : Pc := fun r i => heldSl E K r i

/-- Each event stands at its dot. -/
def Named (E : Hist) : Prop := ∀ r i, (E r i).who = r ∧ (E r i).num = i + 1

theorem Gone.mono {E : Hist} {K U : Vec} {e : Ev} (h : Gone E K e) (k : Vec.le K U) : Gone E U e := by
  obtain ⟨r, i, hr, hi, ht⟩ := gone_iff.1 h
  exact gone_iff.2 ⟨r, i, hr, Nat.lt_of_lt_of_le hi (k r), ht⟩

theorem gone_sup {E : Hist} {K U : Vec} {e : Ev} : Gone E (Vec.sup K U) e ↔ Gone E K e ∨ Gone E U e := by
  constructor
  · intro hh
    obtain ⟨r, i, hr, hi, ht⟩ := gone_iff.1 hh
    rcases Nat.lt_or_ge i (K r) with h | h
    · exact .inl (gone_iff.2 ⟨r, i, hr, h, ht⟩)
    · refine .inr (gone_iff.2 ⟨r, i, hr, ?_, ht⟩)
      have : i < max (K r) (U r) := hi
      omega
  · rintro (h | h)
    · exact h.mono (Vec.le_sup_l K U)
    · exact h.mono (Vec.le_sup_r K U)

/-- What took something away had seen it, and so who knows the one knows the other. -/
theorem gone_known {E : Hist} {K : Vec} (hn : Named E) (hc : Closed E K) {r i : Nat} (h : Gone E K (E r i)) : i < K r := by
  obtain ⟨r', i', hr, hi, ht⟩ := gone_iff.1 h
  have hs := hc r' i' hi r
  obtain ⟨h1, h2⟩ := hn r i
  simp only [Ev.takes, Bool.and_eq_true, decide_eq_true_eq, h1, h2] at ht
  omega

theorem heldSl_zero {E : Hist} {K : Vec} {r i : Nat} (h : ¬ i < K r) : heldSl E K r i = Sl.zero := if_neg h
theorem heldSl_dot {E : Hist} {K : Vec} {r i : Nat} (h : i < K r) (k : ¬ ((E r i).puts = true ∧ ¬ Gone E K (E r i))) : heldSl E K r i = Sl.dot := by
  rw [heldSl, if_pos h, if_neg k]
theorem heldSl_fil {E : Hist} {K : Vec} {r i : Nat} (h : i < K r) (k : (E r i).puts = true) (g : ¬ Gone E K (E r i)) : heldSl E K r i = (E r i).fil := by
  rw [heldSl, if_pos h, if_pos ⟨k, g⟩]

theorem heldSl_known (E : Hist) (K : Vec) (r i : Nat) : (heldSl E K r i).known = decide (i < K r) := by
  by_cases h : i < K r
  · rw [decide_eq_true h, heldSl, if_pos h]; split <;> rfl
  · rw [heldSl_zero h, decide_eq_false h]; rfl

theorem join_zero_l (b : Sl) : joinSl Sl.zero b = b := rfl
theorem join_zero_r {a : Sl} (h : a.known = true ∨ a = Sl.zero) : joinSl a Sl.zero = a := by
  rcases h with h | rfl
  · simp [joinSl, h, Sl.zero]
  · rfl
theorem same_self (a : Sl) : Sl.same a a = true := by simp [Sl.same]
theorem same_iff (a b : Sl) : Sl.same a b = true ↔ a = b := by
  constructor
  · intro h
    simp only [Sl.same, Bool.and_eq_true, beq_iff_eq] at h
    exact Sl.ext' h.1 h.2.1 h.2.2.1 h.2.2.2.1 h.2.2.2.2
  · rintro rfl; exact same_self a
theorem join_self (a : Sl) : joinSl a a = a := by
  unfold joinSl; rw [same_self]; cases h : a.known <;> simp [h]
theorem join_dot_r {a : Sl} (h : a.known = true) : joinSl a Sl.dot = Sl.dot := by
  unfold joinSl
  by_cases e : a = Sl.dot
  · subst e; rfl
  · have : Sl.same a Sl.dot = false := by rw [Bool.eq_false_iff]; intro h2; exact e ((same_iff _ _).1 h2)
    rw [h, this]; rfl
theorem join_dot_l (b : Sl) : joinSl Sl.dot b = Sl.dot := by
  unfold joinSl
  rw [if_pos (by rfl)]
  split
  · rfl
  · rfl

/-- A slot of a dot whose event is e: not known, known, laid. -/
def Tame (e : Ev) (s : Sl) : Prop := s = Sl.zero ∨ s = Sl.dot ∨ s = e.fil
theorem tame_held (E : Hist) (K : Vec) (r i : Nat) : Tame (E r i) (heldSl E K r i) := by
  unfold heldSl
  split
  · split
    · exact .inr (.inr rfl)
    · exact .inr (.inl rfl)
  · exact .inl rfl
theorem fil_known (e : Ev) : e.fil.known = true := rfl
theorem tame_join {e : Ev} {a b : Sl} (ha : Tame e a) (hb : Tame e b) : Tame e (joinSl a b) := by
  rcases ha with rfl | rfl | rfl
  · exact hb
  · rw [join_dot_l]; exact .inr (.inl rfl)
  · rcases hb with rfl | rfl | rfl
    · rw [join_zero_r (.inl rfl)]; exact .inr (.inr rfl)
    · rw [join_dot_r rfl]; exact .inr (.inl rfl)
    · rw [join_self]; exact .inr (.inr rfl)
theorem join_assoc {e : Ev} {a b c : Sl} (ha : Tame e a) (hb : Tame e b) (hc : Tame e c) : joinSl (joinSl a b) c = joinSl a (joinSl b c) := by
  rcases ha with rfl | rfl | rfl
  · rfl
  · rw [join_dot_l, join_dot_l, join_dot_l]
  · rcases hb with rfl | rfl | rfl
    · rw [join_zero_r (.inl rfl)]; rfl
    · rw [join_dot_r rfl, join_dot_l, join_dot_r rfl]
    · rcases hc with rfl | rfl | rfl
      · rw [join_self, join_zero_r (.inl rfl), join_self]
      · rw [join_self, join_dot_r rfl, join_dot_r rfl]
      · rw [join_self, join_self]
theorem join_comm {e : Ev} {a b : Sl} (ha : Tame e a) (hb : Tame e b) : joinSl a b = joinSl b a := by
  have hz : ∀ {s : Sl}, Tame e s → s.known = true ∨ s = Sl.zero := by
    rintro s (rfl | rfl | rfl)
    · exact .inr rfl
    · exact .inl rfl
    · exact .inl rfl
  rcases ha with rfl | rfl | rfl
  · rw [join_zero_r (hz hb)]; rfl
  · rcases hb with rfl | rfl | rfl
    · rfl
    · rfl
    · rw [join_dot_l, join_dot_r rfl]
  · rcases hb with rfl | rfl | rfl
    · rw [join_zero_r (.inl rfl)]; rfl
    · rw [join_dot_r rfl, join_dot_l]
    · rfl

/-- What two hold, joined, is what both hold. -/
theorem held_join {E : Hist} {K U : Vec} (hn : Named E) (hk : Closed E K) (hu : Closed E U) : (held E K).join (held E U) = held E (Vec.sup K U) := by
  funext r i
  show joinSl (heldSl E K r i) (heldSl E U r i) = heldSl E (Vec.sup K U) r i
  by_cases h1 : i < K r
  · have h3 : i < Vec.sup K U r := Nat.lt_of_lt_of_le h1 (Vec.le_sup_l K U r)
    by_cases h2 : i < U r
    · by_cases hp : (E r i).puts = true
      · by_cases g1 : Gone E K (E r i)
        · rw [heldSl_dot h1 (fun x => x.2 g1), join_dot_l, heldSl_dot h3 (fun x => x.2 (gone_sup.2 (.inl g1)))]
        · by_cases g2 : Gone E U (E r i)
          · rw [heldSl_dot h2 (fun x => x.2 g2), heldSl_fil h1 hp g1, join_dot_r rfl, heldSl_dot h3 (fun x => x.2 (gone_sup.2 (.inr g2)))]
          · rw [heldSl_fil h1 hp g1, heldSl_fil h2 hp g2, join_self, heldSl_fil h3 hp (fun x => (gone_sup.1 x).elim g1 g2)]
      · rw [heldSl_dot h1 (fun x => hp x.1), join_dot_l, heldSl_dot h3 (fun x => hp x.1)]
    · rw [heldSl_zero h2]
      have g2 : ¬ Gone E U (E r i) := fun g => h2 (gone_known hn hu g)
      rw [join_zero_r (.inl (by rw [heldSl_known]; exact decide_eq_true h1))]
      by_cases hp : (E r i).puts = true
      · by_cases g1 : Gone E K (E r i)
        · rw [heldSl_dot h1 (fun x => x.2 g1), heldSl_dot h3 (fun x => x.2 (gone_sup.2 (.inl g1)))]
        · rw [heldSl_fil h1 hp g1, heldSl_fil h3 hp (fun x => (gone_sup.1 x).elim g1 g2)]
      · rw [heldSl_dot h1 (fun x => hp x.1), heldSl_dot h3 (fun x => hp x.1)]
  · rw [heldSl_zero h1, join_zero_l]
    have g1 : ¬ Gone E K (E r i) := fun g => h1 (gone_known hn hk g)
    by_cases h2 : i < U r
    · have h3 : i < Vec.sup K U r := Nat.lt_of_lt_of_le h2 (Vec.le_sup_r K U r)
      by_cases hp : (E r i).puts = true
      · by_cases g2 : Gone E U (E r i)
        · rw [heldSl_dot h2 (fun x => x.2 g2), heldSl_dot h3 (fun x => x.2 (gone_sup.2 (.inr g2)))]
        · rw [heldSl_fil h2 hp g2, heldSl_fil h3 hp (fun x => (gone_sup.1 x).elim g1 g2)]
      · rw [heldSl_dot h2 (fun x => hp x.1), heldSl_dot h3 (fun x => hp x.1)]
    · have h3 : ¬ i < Vec.sup K U r := by
        show ¬ i < max (K r) (U r)
        omega
      rw [heldSl_zero h2, heldSl_zero h3]

theorem held_zero (E : Hist) : held E Vec.zero = Pc.empty := by
  funext r i
  exact heldSl_zero (Nat.not_lt_zero _)

theorem Closed.zero (E : Hist) : Closed E Vec.zero := fun r i h => absurd h (Nat.not_lt_zero _)
theorem Closed.sup {E : Hist} {K U : Vec} (hk : Closed E K) (hu : Closed E U) : Closed E (Vec.sup K U) := by
  intro r i hi
  rcases Nat.lt_or_ge i (K r) with h | h
  · exact (hk r i h).tr (Vec.le_sup_l K U)
  · have h' : i < max (K r) (U r) := hi
    exact (hu r i (by omega)).tr (Vec.le_sup_r K U)

/-- A delta that leads from who knows V to who knows U. -/
structure GoodD (E : Hist) (V U : Vec) (D : Pc) : Prop where
  tame : ∀ r i, Tame (E r i) (D r i)
  leads : (held E V).join D = held E U
  le : Vec.le V U
  cv : Closed E V
  cu : Closed E U

theorem GoodD.whole {E : Hist} {K : Vec} (hk : Closed E K) : GoodD E Vec.zero K (held E K) :=
  ⟨fun r i => tame_held E K r i, by rw [held_zero]; rfl, fun _ => Nat.zero_le _, Closed.zero E, hk⟩

theorem GoodD.two {E : Hist} {V U X : Vec} {D D' : Pc} (h : GoodD E V U D) (k : GoodD E U X D') : GoodD E V X (D.join D') := by
  refine ⟨fun r i => tame_join (h.tame r i) (k.tame r i), ?_, h.le.tr k.le, h.cv, k.cu⟩
  rw [← k.leads, ← h.leads]
  funext r i
  exact (join_assoc (tame_held E V r i) (h.tame r i) (k.tame r i)).symm

/-- It leads whoever knows at least V on. -/
theorem GoodD.at {E : Hist} {V U K : Vec} {D : Pc} (h : GoodD E V U D) (hn : Named E) (hk : Closed E K) (hv : Vec.le V K) : GoodD E K (Vec.sup K U) D := by
  refine ⟨h.tame, ?_, Vec.le_sup_l K U, hk, hk.sup h.cu⟩
  have e1 : held E K = (held E K).join (held E V) := by rw [held_join hn hk h.cv, Vec.sup_of_le hv]
  rw [← held_join hn hk h.cu, ← h.leads]
  conv => lhs; rw [e1]
  funext r i
  exact join_assoc (tame_held E K r i) (tame_held E V r i) (h.tame r i)

/-- A dot of it is known behind it. -/
theorem GoodD.known {E : Hist} {V U : Vec} {D : Pc} (h : GoodD E V U D) {r i : Nat} (hd : (D r i).known = true) : i < U r := by
  have e := congrFun (congrFun h.leads r) i
  have e2 : joinSl (heldSl E V r i) (D r i) = heldSl E U r i := e
  have hk : (joinSl (heldSl E V r i) (D r i)).known = true := by
    unfold joinSl
    split
    · split
      · assumption
      · rfl
    · exact hd
  rw [e2, heldSl_known] at hk
  exact of_decide_eq_true hk

/-- It has all dots that came since. -/
theorem GoodD.has {E : Hist} {V U : Vec} {D : Pc} (h : GoodD E V U D) {r i : Nat} (h1 : V r ≤ i) (h2 : i < U r) : (D r i).known = true := by
  have e := congrFun (congrFun h.leads r) i
  have e2 : joinSl (heldSl E V r i) (D r i) = heldSl E U r i := e
  rw [heldSl_zero (by omega), join_zero_l] at e2
  rw [e2, heldSl_known]
  exact decide_eq_true h2

/-- The history matters only as far as it is known. -/
theorem gone_congr {E E' : Hist} {K : Vec} {e : Ev} (h : ∀ r i, i < K r → E' r i = E r i) : Gone E' K e ↔ Gone E K e := by
  constructor
  · intro hh
    obtain ⟨r, i, hr, hi, ht⟩ := gone_iff.1 hh
    exact gone_iff.2 ⟨r, i, hr, hi, by rw [← h r i hi]; exact ht⟩
  · intro hh
    obtain ⟨r, i, hr, hi, ht⟩ := gone_iff.1 hh
    exact gone_iff.2 ⟨r, i, hr, hi, by rw [h r i hi]; exact ht⟩
theorem held_congr {E E' : Hist} {K : Vec} (h : ∀ r i, i < K r → E' r i = E r i) : held E' K = held E K := by
  funext r i
  show heldSl E' K r i = heldSl E K r i
  unfold heldSl
  by_cases hi : i < K r
  · rw [if_pos hi, if_pos hi, h r i hi]
    by_cases g : Gone E K (E r i)
    · rw [if_neg (fun x => x.2 ((gone_congr h).2 g)), if_neg (fun x => x.2 g)]
    · by_cases hp : (E r i).puts = true
      · rw [if_pos ⟨hp, fun x => g ((gone_congr h).1 x)⟩, if_pos ⟨hp, g⟩]
      · rw [if_neg (fun x => hp x.1), if_neg (fun x => hp x.1)]
  · rw [if_neg hi, if_neg hi]
theorem closed_congr {E E' : Hist} {K : Vec} (h : ∀ r i, i < K r → E' r i = E r i) (hk : Closed E K) : Closed E' K := by
  intro r i hi
  rw [h r i hi]; exact hk r i hi
theorem GoodD.congr {E E' : Hist} {V U : Vec} {D : Pc} (h : GoodD E V U D) (he : ∀ r i, i < U r → E' r i = E r i) : GoodD E' V U D := by
  have hv : ∀ r i, i < V r → E' r i = E r i := fun r i hi => he r i (Nat.lt_of_lt_of_le hi (h.le r))
  refine ⟨?_, ?_, h.le, closed_congr hv h.cv, closed_congr he h.cu⟩
  · intro r i
    by_cases hd : (D r i).known = true
    · rw [he r i (h.known hd)]; exact h.tame r i
    · rcases h.tame r i with e | e | e
      · exact .inl e
      · rw [e] at hd; exact absurd rfl hd
      · rw [e] at hd; exact absurd rfl hd
  · rw [held_congr hv, held_congr he, h.leads]

end Go.Proofs.YtalaldfgjgpacabGreatDoor

namespace Go.Proofs.YtalaldfgjgpacabGreatDoor
set_option linter.unusedVariables false
set_option linter.unusedSimpArgs false
open Go.RowKit

theorem bytes_app (x y : List UInt8) : (ByteArray.mk x.toArray ++ ByteArray.mk y.toArray) = ByteArray.mk (x ++ y).toArray := ByteArray.mk_append_mk x y

set_option maxHeartbeats 1000000 in
theorem entryText_any (s : Sl) (r n : Nat) (w : World) (hr : r < 10) (hn : n < 10) (hc0 : 0 ≤ s.cart) (hc1 : s.cart < 3) (hi0 : 0 ≤ s.item) (hi1 : s.item < 4) (hv0 : -99 ≤ s.value) (hv1 : s.value ≤ 99) :
    Calls Tryz.prog 83 #[.int .i64 r, .int .i64 n, .agg #[.int .i64 s.cart, .int .i64 s.item, .int .i64 s.value]] w fun e w' => e = .returned (.string ⟨(s.text r n).toArray⟩) ∧ Blw w w' := by
  obtain ⟨l, hl⟩ : ∃ l, l = s.text r n := ⟨_, rfl⟩
  rw [← hl]
  have HL : Hid (l = [cartB s.cart.toNat, itemB s.item.toNat, dig r, dig n] ++ valL s.value) := hl
  clear hl
  obtain ⟨kk, ff, c, it, v⟩ := s
  simp only [] at *
  have vl : (valL v).length = 3 := rfl
  go_enter Tryz.func83, Tryz.ntmps83
  go_wp2_with fail
  refine (cartLetter_any c _ hc0 hc1).mono ?_
  rintro e w1 ⟨rfl, b1⟩
  obtain ⟨c1, f1⟩ := bcell b1
  go_wp2_with fail
  refine (itemLetter_any it _ hi0 hi1).mono ?_
  rintro e w2 ⟨rfl, b2⟩
  have b3 := b1.tr b2
  obtain ⟨c2, f2⟩ := bcell b3
  clear b2 c1 f1
  go_wp2_with fail
  refine (dotText_any r n _ hr hn).mono ?_
  rintro e w3 ⟨rfl, rfl⟩
  go_wp2_with fail
  refine (valueText_any v _ hv0 hv1).mono ?_
  rintro e w4 ⟨rfl, rfl⟩
  go_wp2
  go_ret
  refine ⟨ret_str ?_, ((Blw.rfl _).al _).tr b3⟩
  rw [HL.out]
  simp only [bytes_app]
  rfl

theorem textTo_succ (p : Pc) (c it : Int) (k m : Nat) (hm : m < 9) : p.textTo c it (k * 9 + (m + 1)) = p.textTo c it (k * 9 + m) ++ (if (p k m).isOf c it then (p k m).text k (m + 1) else []) := by
  show p.textTo c it (k * 9 + m + 1) = _
  rw [Pc.textTo, Pc.nth_ri _ _ _ hm]
  have e1 : (k * 9 + m) / 9 = k := by omega
  have e2 : (k * 9 + m) % 9 = m := by omega
  rw [e1, e2]

set_option maxHeartbeats 1000000 in
theorem itemText_any (p : Pc) (hp : p.ok) (c it : Int) (w : World) :
    Calls Tryz.prog 54 #[.agg p.arr, .int .i64 c, .int .i64 it] w fun e w' => e = .returned (.string ⟨(p.textTo c it 27).toArray⟩) ∧ Blw w w' := by
  have HP := hid hp
  clear hp
  go_enter Tryz.func54, Tryz.ntmps54
  go_wp2
  go_loopw [7, 8] (fun s r wr => ∃ k : Nat, k ≤ 3 ∧ r = .int .i64 k ∧ s = .string ⟨(p.textTo c it (k * 9)).toArray⟩ ∧ HasPc p w wr) (fun _ r _ => 3 - (intOf r).toNat)
  case atStart => exact ⟨0, by omega, rfl, rfl, HasPc.start p w⟩
  case round =>
    obtain ⟨k, hk, rfl, rfl, hJR⟩ := hrel
    by_cases hlt : k < 3
    · have hd : decide ((k : Int) < 3) = true := by simp; omega
      go_wp2
      go_loopw [7, 9] (fun s i wr => ∃ m : Nat, m ≤ 9 ∧ i = .int .i64 m ∧ s = .string ⟨(p.textTo c it (k * 9 + m)).toArray⟩ ∧ HasPc p w wr) (fun _ i _ => 9 - (intOf i).toNat)
      case atStart => exact ⟨0, by omega, rfl, rfl, hJR⟩
      case round =>
        clear hJR
        obtain ⟨m, hm, rfl, rfl, hJR⟩ := hrel
        by_cases hlm : m < 9
        · have H := hid hJR
          have hln := textTo_len p c it (k * 9 + m)
          have HS := hid (textTo_succ p c it k m hlm)
          generalize p.textTo c it (k * 9 + m) = tx at *
          obtain ⟨p0, p1, p2, p3, p4⟩ := cells5 hJR.1 k m hlt hlm
          have hk0 : (0 : Int) ≤ (k : Int) := Int.natCast_nonneg _
          have hk3 : (k : Int) < 3 := by omega
          have hm0 : (0 : Int) ≤ (m : Int) := Int.natCast_nonneg _
          have hm9 : (m : Int) < 9 := by omega
          clear hJR
          go_wp2_with fail
          refine (isOf_cells (p k m) c it _).mono ?_
          rintro e w2 ⟨rfl, hb⟩
          have H2 := hid (H.out.on hb)
          cases hi : (p k m).isOf c it
          · clear hb
            go_wp2
            go_roundw
            case rel => exact ⟨m + 1, by omega, by go_num, by rw [HS.out, hi]; simp, H2.out⟩
            case measure => simp [intOf]; omega
          · obtain ⟨p0', p1', p2', p3', p4'⟩ := cells5 H2.out.1 k m hlt hlm
            have hv : (p k m).known = true ∧ 0 ≤ (p k m).cart ∧ (p k m).cart < 3 ∧ 0 ≤ (p k m).item ∧ (p k m).item < 4 ∧ -99 ≤ (p k m).value ∧ (p k m).value ≤ 99 := by
              have hf : (p k m).filled = true := by simp only [Sl.isOf, Bool.and_eq_true] at hi; exact hi.1
              exact HP.out k m hlt hlm hf
            have HV := hid hv
            clear hb hv
            go_wp2_with fail
            refine (entryText_any (p k m) k (m + 1) _ (by omega) (by omega) HV.out.2.1 HV.out.2.2.1 HV.out.2.2.2.1 HV.out.2.2.2.2.1 HV.out.2.2.2.2.2.1 HV.out.2.2.2.2.2.2).mono ?_
            rintro e w3 ⟨rfl, hb⟩
            have H3 := hid (H2.out.on hb)
            have tl : ((p k m).text k (m + 1)).length = 7 := rfl
            clear hb
            go_wp2
            go_roundw
            case rel => exact ⟨m + 1, by omega, by go_num, by rw [HS.out, hi, bytes_app]; rfl, H3.out⟩
            case measure => simp [intOf]; omega
        · have hm9 : m = 9 := by omega
          subst hm9
          go_wp2
          go_roundw
          case rel => exact ⟨k + 1, by omega, by go_num, by rw [show (k + 1) * 9 = k * 9 + 9 by omega], hJR⟩
          case measure => simp [intOf]; omega
    · have hk3 : k = 3 := by omega
      subst hk3
      go_wp2
      go_ret
      exact ⟨rfl, hJR.2.2⟩
end Go.Proofs.YtalaldfgjgpacabGreatDoor

namespace Go.Proofs.YtalaldfgjgpacabGreatDoor
set_option linter.unusedVariables false
set_option linter.unusedSimpArgs false
open Go.RowKit

theorem bs_data (l : Bs) : (ByteArray.mk l.toArray).data.toList = l := by simp
theorem bs_size (l : Bs) : (ByteArray.mk l.toArray).size = l.length := by simp [ByteArray.size]
theorem bs_toList (l : Bs) : (ByteArray.mk l.toArray).toList = l := by rw [ByteArray.toList_eq]
theorem bs_eta (s : ByteArray) : ByteArray.mk s.data.toList.toArray = s := by cases s; simp
theorem bs_extract (l : Bs) (i j : Nat) : (ByteArray.mk l.toArray).extract i j = ByteArray.mk ((l.drop i).take (j - i)).toArray := by
  apply ByteArray.ext
  simp [ByteArray.data_extract, List.extract_eq_take_drop]
theorem Blw.drn {a w : World} (h : Blw a w) (n : Nat) : Blw a (w.drewN n) := ⟨h.os, h.tape, h.output, h.size, fun k hk => h.block k hk⟩
/-- The last digits of a number. -/
def lastD (n : Nat) : Nat → Bs
  | 0 => []
  | k + 1 => dig (n / 10 ^ k % 10) :: lastD n k
theorem lastD_len (n k : Nat) : (lastD n k).length = k := by
  induction k with
  | zero => rfl
  | succ k ih => simp [lastD, ih]
theorem digsIn_no (l : Bs) (k : Nat) (hk : k < l.length) (h : isDigB (l.getD k 0) = false) : l.all isDigB = false := by
  rw [List.all_eq_false]
  refine ⟨l.getD k 0, ?_, by rw [h]; exact Bool.false_ne_true⟩
  rw [List.getD_eq_getElem?_getD, List.getElem?_eq_getElem hk]; exact List.getElem_mem hk
theorem byte_at (l : Bs) (k : Nat) (hk : k < (ByteArray.mk l.toArray).size) : (ByteArray.mk l.toArray)[k]'hk = l.getD k 0 := by
  have hk' : k < l.length := by rw [bs_size] at hk; exact hk
  simp [List.getD, List.getElem?_eq_getElem hk']
  rfl
/-- A piece as text, by its lists. -/
def writeL (D E : List Bs) : Bs := D.flatten ++ [59] ++ E.flatten
def isRepB (c : UInt8) : Bool := decide (48 ≤ c.toNat ∧ c.toNat < 51)
theorem isRepB_iff (c : UInt8) : isRepB c = true ↔ 48 ≤ c.toNat ∧ c.toNat < 51 := by simp [isRepB]
/-- How many dots. -/
def Pc.dots (p : Pc) : Nat := p.count ((0 : Nat) : Int) + p.count ((1 : Nat) : Int) + p.count ((2 : Nat) : Int)
theorem cnt_mono {kn kn' : Nat → Bool} (n : Nat) (h : ∀ i, i < n → kn i = true → kn' i = true) : cnt kn n ≤ cnt kn' n := by
  induction n with
  | zero => simp [cnt]
  | succ n ih =>
    have := ih (fun i hi => h i (by omega))
    simp only [cnt]
    by_cases hk : kn n = true
    · rw [if_pos hk, if_pos (h n (by omega) hk)]; omega
    · rw [if_neg hk]; omega
theorem count_mono {p q : Pc} (h : ∀ r i, r < 3 → i < 9 → (p r i).known = true → (q r i).known = true) (r : Nat) (hr : r < 3) : p.count (r : Int) ≤ q.count (r : Int) := by
  unfold Pc.count
  rw [if_pos (by omega), if_pos (by omega)]
  exact cnt_mono 9 (fun i hi hk => h r i hr hi (by simpa using hk))
theorem size_le27 (p : Pc) : p.dots ≤ 27 := by
  have h0 := Pc.count_le p ((0 : Nat) : Int)
  have h1 := Pc.count_le p ((1 : Nat) : Int)
  have h2 := Pc.count_le p ((2 : Nat) : Int)
  unfold Pc.dots; omega
theorem put_fine {p : Pc} (hp : p.fine) (Tq : Sl → Bool) (taken : Pc) (htk : ∀ r i, r < 3 → i < 9 → taken r i = if Tq (p r i) then Sl.dot else Sl.zero) (me k : Nat) (sl : Sl) (hsl : sl.known = true) (hslg : sl.filled = true → sl.good) (hslc : sl.filled = false → sl.cart = 0 ∧ sl.item = 0 ∧ sl.value = 0) : (taken.put me k sl).fine := by
  constructor
  · intro r i hr hi hf
    unfold Pc.put at hf ⊢
    split at hf
    · rename_i e
      simp only [e, and_self, if_true]
      obtain ⟨a, b, c, d, e', f⟩ := hslg hf
      exact ⟨hsl, a, b, c, d, e', f⟩
    · rw [htk r i hr hi] at hf
      split at hf <;> cases hf
  · intro r i hr hi hf
    unfold Pc.put at hf ⊢
    split at hf
    · rename_i e
      simp only [e, and_self, if_true]
      exact hslc hf
    · rename_i e
      simp only [e, if_false]
      rw [htk r i hr hi]
      split <;> exact ⟨rfl, rfl, rfl⟩
theorem ty_ne {w : World} {a b : Nat} {C C' : Array Value} {t t' : TypeId} (h : w.heap[a]? = some (.cells C t)) (h' : w.heap[b]? = some (.cells C' t')) (ht : t ≠ t') : a ≠ b := by
  rintro rfl
  rw [h] at h'
  simp only [Option.some.injEq, Obj.cells.injEq] at h'
  exact ht h'.2.1
theorem hp_new2 (w : World) (o1 o2 : Obj) : ((w.alloc o1).alloc o2).heap[w.heap.size + 1]? = some o2 := by simpa using hp_new (w.alloc o1) o2
theorem mkAck1 (w : World) : (Instr.makeSlice 37 (.int .i64 1) (.int .i64 1)).run Tryz.prog w = .ok (.slice (some ⟨w.heap.size, 0, none⟩) 1 1) (w.alloc (.cells #[.int .i64 0] 3)) := by kernel_rfl
theorem mkAck2 (w : World) : (Instr.makeSlice 37 (.int .i64 2) (.int .i64 2)).run Tryz.prog w = .ok (.slice (some ⟨w.heap.size, 0, none⟩) 2 2) (w.alloc (.cells #[.int .i64 0, .int .i64 0] 3)) := by kernel_rfl
theorem mkAck3 (w : World) : (Instr.makeSlice 37 (.int .i64 3) (.int .i64 3)).run Tryz.prog w = .ok (.slice (some ⟨w.heap.size, 0, none⟩) 3 3) (w.alloc (.cells #[.int .i64 0, .int .i64 0, .int .i64 0] 3)) := by kernel_rfl
end Go.Proofs.YtalaldfgjgpacabGreatDoor

namespace Go.Proofs.YtalaldfgjgpacabGreatDoor
set_option linter.unusedVariables false
set_option linter.unusedSimpArgs false

/-- A dot's text; an entry's. -/
def dotG (d : Bs) : Prop := ∃ r i, r < 3 ∧ i < 9 ∧ d = dotT r i
def entG (e : Bs) : Prop := ∃ (s : Sl) (r i : Nat), r < 3 ∧ i < 9 ∧ s.good ∧ e = s.text r (i + 1)

/-- A text that is a piece, and its lists. -/
structure Good (l : Bs) (D E : List Bs) : Prop where
  eq : l = D.flatten ++ 59 :: E.flatten
  sd : Srt D
  gd : ∀ d ∈ D, dotG d
  se : Srt E
  ge : ∀ e ∈ E, entG e
  ed : ∀ e ∈ E, dotOf e ∈ D
  nd : E.Pairwise (fun a b => dotOf a ≠ dotOf b)

theorem dig_of {a : UInt8} (h0 : 48 ≤ a.toNat) (h1 : a.toNat < 148) : a = dig (a.toNat - 48) := by
  apply UInt8.toNat_inj.1
  rw [dig_toNat _ (by omega)]; omega

theorem dotG_iff (a b : UInt8) : dotG [a, b] ↔ (48 ≤ a.toNat ∧ a.toNat < 51) ∧ (49 ≤ b.toNat ∧ b.toNat ≤ 57) := by
  constructor
  · rintro ⟨r, i, hr, hi, h⟩
    simp only [dotT, List.cons.injEq, and_true] at h
    rw [h.1, h.2, dig_toNat _ (by omega), dig_toNat _ (by omega)]; omega
  · rintro ⟨⟨h0, h1⟩, h2, h3⟩
    refine ⟨a.toNat - 48, b.toNat - 49, by omega, by omega, ?_⟩
    unfold dotT
    rw [← dig_of h0 (by omega), show b.toNat - 49 + 1 = b.toNat - 48 by omega, ← dig_of (by omega) (by omega)]

theorem cartB_toNat (a : Nat) (h : a < 100) : (cartB a).toNat = 97 + a := by unfold cartB; rw [UInt8.toNat_ofNat', Nat.mod_eq_of_lt (by omega)]
theorem itemB_toNat (a : Nat) (h : a < 100) : (itemB a).toNat = 65 + a := by unfold itemB; rw [UInt8.toNat_ofNat', Nat.mod_eq_of_lt (by omega)]

/-- An entry's text, byte by byte. -/
def entB (c it r n sg d0 d1 : UInt8) : Prop :=
  (97 ≤ c.toNat ∧ c.toNat < 100) ∧ (65 ≤ it.toNat ∧ it.toNat < 69) ∧ (48 ≤ r.toNat ∧ r.toNat < 51) ∧ (49 ≤ n.toNat ∧ n.toNat ≤ 57) ∧ (sg = 43 ∨ sg = 45) ∧ (48 ≤ d0.toNat ∧ d0.toNat ≤ 57) ∧ (48 ≤ d1.toNat ∧ d1.toNat ≤ 57) ∧ ¬ (sg = 45 ∧ d0 = 48 ∧ d1 = 48)

theorem entG_iff (c it r n sg d0 d1 : UInt8) : entG [c, it, r, n, sg, d0, d1] ↔ entB c it r n sg d0 d1 := by
  constructor
  · rintro ⟨s, r', i', hr, hi, ⟨a0, a1, a2, a3, a4, a5⟩, h⟩
    simp only [Sl.text, valL, List.cons_append, List.nil_append, List.cons.injEq, and_true] at h
    obtain ⟨rfl, rfl, rfl, rfl, h5, rfl, rfl⟩ := h
    unfold entB
    rw [cartB_toNat _ (by omega), itemB_toNat _ (by omega), dig_toNat _ (by omega), dig_toNat _ (by omega), dig_toNat _ (by omega), dig_toNat _ (by omega)]
    refine ⟨by omega, by omega, by omega, by omega, ?_, by omega, by omega, ?_⟩
    · rw [h5]; split <;> simp
    · rintro ⟨e1, e2, e3⟩
      rw [h5] at e1
      have e2' : s.value.natAbs / 10 = 0 := dig_inj (by rw [e2]; rfl) (by omega) (by omega)
      have e3' : s.value.natAbs % 10 = 0 := dig_inj (by rw [e3]; rfl) (by omega) (by omega)
      have : ¬ s.value < 0 := by omega
      rw [if_neg this] at e1; revert e1; decide
  · rintro ⟨⟨a0, a1⟩, ⟨b0, b1⟩, ⟨c0, c1⟩, ⟨e0, e1⟩, hs, ⟨f0, f1⟩, ⟨g0, g1⟩, hn⟩
    have hb : ∀ a : UInt8, ∀ k : Nat, 48 ≤ a.toNat → a.toNat ≤ 57 → k = a.toNat - 48 → dig k = a := fun a k h h' hk => by rw [hk]; exact (dig_of h (by omega)).symm
    have hc : cartB (c.toNat - 97) = c := by apply UInt8.toNat_inj.1; rw [cartB_toNat _ (by omega)]; omega
    have hi : itemB (it.toNat - 65) = it := by apply UInt8.toNat_inj.1; rw [itemB_toNat _ (by omega)]; omega
    have key : ∀ v : Int, v.natAbs = (d0.toNat - 48) * 10 + (d1.toNat - 48) → (if v < 0 then (45 : UInt8) else 43) = sg → entG [c, it, r, n, sg, d0, d1] := by
      intro v hv hsg
      refine ⟨⟨true, true, ((c.toNat - 97 : Nat) : Int), ((it.toNat - 65 : Nat) : Int), v⟩, r.toNat - 48, n.toNat - 49, by omega, by omega, ⟨by simp, by simp; omega, by simp, by simp; omega, by simp; omega, by simp; omega⟩, ?_⟩
      simp only [Sl.text, valL, List.cons_append, List.nil_append, Int.toNat_natCast, hc, hi, hsg]
      rw [hb r _ c0 (by omega) rfl, hb n (n.toNat - 49 + 1) (by omega) e1 (by omega), hb d0 (v.natAbs / 10) f0 f1 (by omega), hb d1 (v.natAbs % 10) g0 g1 (by omega)]
    rcases hs with rfl | rfl
    · refine key (((d0.toNat - 48) * 10 + (d1.toNat - 48) : Nat) : Int) (by omega) ?_
      rw [if_neg (by omega)]
    · refine key (-(((d0.toNat - 48) * 10 + (d1.toNat - 48) : Nat) : Int)) (by omega) ?_
      rw [if_pos]
      have : ¬ (d0.toNat = 48 ∧ d1.toNat = 48) := fun ⟨x, y⟩ => hn ⟨rfl, UInt8.toNat_inj.1 x, UInt8.toNat_inj.1 y⟩
      omega

theorem dotG_len {d : Bs} (h : dotG d) : d.length = 2 := by obtain ⟨r, i, _, _, rfl⟩ := h; rfl
theorem entG_len {d : Bs} (h : entG d) : d.length = 7 := by obtain ⟨s, r, i, _, _, _, rfl⟩ := h; rfl
theorem dotG_head {d : Bs} (h : dotG d) : d.getD 0 0 ≠ 59 := by
  obtain ⟨r, i, hr, _, rfl⟩ := h
  intro e
  have : (dig r).toNat = 59 := by have := congrArg UInt8.toNat e; simpa [dotT] using this
  rw [dig_toNat _ (by omega)] at this; omega

theorem flat_drop (m : Nat) (L : List Bs) (h : ∀ x ∈ L, x.length = m) (rest : Bs) (k : Nat) : k ≤ L.length → (L.flatten ++ rest).drop (m * k) = (L.drop k).flatten ++ rest := by
  induction L generalizing k with
  | nil => intro hk; simp only [List.length_nil] at hk; have : k = 0 := by omega
           subst this; simp
  | cons x L ih =>
    intro hk
    cases k with
    | zero => simp
    | succ k =>
      have hx := h x List.mem_cons_self
      rw [List.flatten_cons, List.append_assoc, Nat.mul_succ, Nat.add_comm, ← List.drop_drop, ← hx, List.drop_left, hx]
      exact ih (fun y hy => h y (List.mem_cons_of_mem _ hy)) k (by simpa using hk)

theorem flat_len' (E : List Bs) (m : Nat) (h : ∀ x ∈ E, x.length = m) : E.flatten.length = m * E.length := by
  induction E with
  | nil => simp
  | cons x E ih =>
    rw [List.flatten_cons, List.length_append, ih (fun y hy => h y (List.mem_cons_of_mem _ hy)), h x List.mem_cons_self, List.length_cons, Nat.mul_succ]; omega

/-- How far the dots of a text have been read. -/
structure DSt (l : Bs) (D : List Bs) : Prop where
  eq : l = D.flatten ++ l.drop (2 * D.length)
  sd : Srt D
  gd : ∀ d ∈ D, dotG d
  pre : ∀ D' E', Good l D' E' → D <+: D'

theorem DSt.zero (l : Bs) : DSt l [] := ⟨by simp, List.Pairwise.nil, by simp, fun _ _ _ => List.nil_prefix⟩

theorem DSt.at_good {l : Bs} {D : List Bs} (h : DSt l D) {D' E' : List Bs} (g : Good l D' E') : ∃ R, D' = D ++ R ∧ l.drop (2 * D.length) = R.flatten ++ 59 :: E'.flatten := by
  obtain ⟨R, hR⟩ := h.pre _ _ g
  refine ⟨R, hR.symm, ?_⟩
  have h1 := h.eq
  have h2 := g.eq
  rw [← hR, List.flatten_append, List.append_assoc] at h2
  rw [h2] at h1
  have h3 := List.append_cancel_left h1
  rw [← h2] at h3; exact h3.symm

theorem DSt.len {l : Bs} {D : List Bs} (h : DSt l D) : 2 * D.length ≤ l.length := by
  have h1 := congrArg List.length h.eq
  rw [List.length_append, flat_len' D 2 (fun x hx => dotG_len (h.gd x hx)), List.length_drop] at h1
  omega

theorem drop_cons {l : Bs} {i : Nat} (h : i < l.length) : l.drop i = l.getD i 0 :: l.drop (i + 1) := by
  rw [List.drop_eq_getElem_cons h]; simp [List.getD_eq_getElem?_getD, h]

/-- No piece: it ends within the dots. -/
theorem DSt.none_end {l : Bs} {D : List Bs} (h : DSt l D) (he : l.length ≤ 2 * D.length) (D' E' : List Bs) : ¬ Good l D' E' := by
  intro g
  obtain ⟨R, hR, e⟩ := h.at_good g
  rw [List.drop_eq_nil_of_le he] at e
  have := congrArg List.length e
  simp at this

def lastLt (D : List Bs) (d : Bs) : Prop := D = [] ∨ D.getLastD [] < d

theorem srt_snoc {D : List Bs} {d : Bs} (h : Srt D) (k : lastLt D d) : Srt (D ++ [d]) := by
  rcases k with rfl | k
  · simp [Srt]
  · refine srt_app h (by simp [Srt]) ?_
    intro x hx y hy
    rw [List.mem_singleton.1 hy]
    have hne : D ≠ [] := fun e => by rw [e] at hx; simp at hx
    have hl : D.getLastD [] = D.getLast hne := by rw [List.getLastD_eq_getLast?, List.getLast?_eq_some_getLast hne]; rfl
    rw [hl] at k
    by_cases e : x = D.getLast hne
    · rw [e]; exact k
    · have hd := List.dropLast_concat_getLast hne
      have h' := h
      unfold Srt at h'
      rw [← hd, List.pairwise_append] at h'
      have hxm : x ∈ D.dropLast := by
        rw [← hd, List.mem_append] at hx
        rcases hx with hx | hx
        · exact hx
        · exact absurd (List.mem_singleton.1 hx) e
      exact lt_tr (h'.2.2 x hxm _ (by simp)) k

theorem lastLt_of_srt {D R : List Bs} {d : Bs} (h : Srt (D ++ d :: R)) : lastLt D d := by
  by_cases hne : D = []
  · exact .inl hne
  · right
    have hl : D.getLastD [] = D.getLast hne := by rw [List.getLastD_eq_getLast?, List.getLast?_eq_some_getLast hne]; rfl
    rw [hl]
    unfold Srt at h
    rw [List.pairwise_append] at h
    exact h.2.2 _ (List.getLast_mem hne) d List.mem_cons_self

/-- The next dot. -/
theorem DSt.good_next {l : Bs} {D : List Bs} (h : DSt l D) (hi : 2 * D.length < l.length) (hs : l.getD (2 * D.length) 0 ≠ 59) {D' E' : List Bs} (g : Good l D' E') :
    2 * D.length + 2 ≤ l.length ∧ dotG [l.getD (2 * D.length) 0, l.getD (2 * D.length + 1) 0] ∧ lastLt D [l.getD (2 * D.length) 0, l.getD (2 * D.length + 1) 0] ∧ D ++ [[l.getD (2 * D.length) 0, l.getD (2 * D.length + 1) 0]] <+: D' := by
  obtain ⟨R, hR, e⟩ := h.at_good g
  cases R with
  | nil =>
    rw [drop_cons hi] at e
    simp only [List.flatten_nil, List.nil_append, List.cons.injEq] at e
    exact absurd e.1 hs
  | cons d R =>
    have hd : dotG d := g.gd d (by rw [hR]; simp)
    obtain ⟨r, i, hr, hi', rfl⟩ := hd
    have hlen : 2 * D.length + 2 ≤ l.length := by
      have := congrArg List.length e
      simp only [List.length_drop, List.flatten_cons, List.length_append, List.length_cons] at this
      have h2 : (dotT r i).length = 2 := rfl
      omega
    have hdd : dotT r i = [l.getD (2 * D.length) 0, l.getD (2 * D.length + 1) 0] := by
      rw [drop_cons hi, drop_cons (by omega : 2 * D.length + 1 < l.length)] at e
      simp only [List.flatten_cons, dotT, List.cons_append, List.nil_append, List.cons.injEq] at e
      rw [e.1, e.2.1]; rfl
    rw [← hdd]
    exact ⟨hlen, ⟨r, i, hr, hi', rfl⟩, lastLt_of_srt (by rw [← hR]; exact g.sd), ⟨R, by rw [hR]; simp⟩⟩

theorem DSt.next {l : Bs} {D : List Bs} (h : DSt l D) (hi : 2 * D.length + 2 ≤ l.length) (hs : l.getD (2 * D.length) 0 ≠ 59) (hd : dotG [l.getD (2 * D.length) 0, l.getD (2 * D.length + 1) 0]) (hl : lastLt D [l.getD (2 * D.length) 0, l.getD (2 * D.length + 1) 0]) :
    DSt l (D ++ [[l.getD (2 * D.length) 0, l.getD (2 * D.length + 1) 0]]) := by
  refine ⟨?_, srt_snoc h.sd hl, ?_, fun D' E' g => (h.good_next (by omega) hs g).2.2.2⟩
  · have h1 := h.eq
    rw [drop_cons (by omega : 2 * D.length < l.length), drop_cons (by omega : 2 * D.length + 1 < l.length)] at h1
    rw [List.flatten_append, List.length_append]
    simp only [List.flatten_cons, List.flatten_nil, List.append_nil, List.length_singleton, List.append_assoc, List.cons_append, List.nil_append]
    rw [show 2 * (D.length + 1) = 2 * D.length + 1 + 1 by omega]; exact h1
  · intro d hm
    rcases List.mem_append.1 hm with hm | hm
    · exact h.gd d hm
    · rw [List.mem_singleton.1 hm]; exact hd

/-- How far its entries have been read. -/
structure ESt (l : Bs) (D E : List Bs) : Prop where
  eq : l = D.flatten ++ 59 :: (E.flatten ++ l.drop (2 * D.length + 1 + 7 * E.length))
  sd : Srt D
  gd : ∀ d ∈ D, dotG d
  se : Srt E
  ge : ∀ e ∈ E, entG e
  ed : ∀ e ∈ E, dotOf e ∈ D
  nd : E.Pairwise (fun a b => dotOf a ≠ dotOf b)
  pre : ∀ D' E', Good l D' E' → D' = D ∧ E <+: E'

theorem DSt.semi {l : Bs} {D : List Bs} (h : DSt l D) (hi : 2 * D.length < l.length) (hs : l.getD (2 * D.length) 0 = 59) : ESt l D [] := by
  refine ⟨?_, h.sd, h.gd, List.Pairwise.nil, by simp, by simp, List.Pairwise.nil, ?_⟩
  · have h1 := h.eq
    rw [drop_cons hi, hs] at h1
    simpa using h1
  · intro D' E' g
    refine ⟨?_, List.nil_prefix⟩
    obtain ⟨R, hR, e⟩ := h.at_good g
    cases R with
    | nil => simpa using hR
    | cons d R =>
      exfalso
      have hd : dotG d := g.gd d (by rw [hR]; simp)
      have := dotG_head hd
      obtain ⟨r, i, hr, hi', rfl⟩ := hd
      rw [drop_cons hi, hs] at e
      simp only [List.flatten_cons, dotT, List.cons_append, List.nil_append, List.cons.injEq] at e
      apply this; rw [dotT]; exact e.1.symm

theorem ESt.at_good {l : Bs} {D E : List Bs} (h : ESt l D E) {D' E' : List Bs} (g : Good l D' E') : D' = D ∧ ∃ R, E' = E ++ R ∧ l.drop (2 * D.length + 1 + 7 * E.length) = R.flatten := by
  obtain ⟨rfl, R, hR⟩ := h.pre _ _ g
  refine ⟨rfl, R, hR.symm, ?_⟩
  have h1 := h.eq
  have h2 := g.eq
  rw [← hR, List.flatten_append] at h2
  rw [h2] at h1
  have h3 := List.append_cancel_left h1
  rw [← h2] at h3
  simp only [List.cons.injEq, true_and] at h3
  exact (List.append_cancel_left h3).symm

theorem ESt.len {l : Bs} {D E : List Bs} (h : ESt l D E) : 2 * D.length + 1 + 7 * E.length ≤ l.length := by
  have h1 := congrArg List.length h.eq
  rw [List.length_append, List.length_cons, List.length_append, flat_len' D 2 (fun x hx => dotG_len (h.gd x hx)), flat_len' E 7 (fun x hx => entG_len (h.ge x hx)), List.length_drop] at h1
  omega

theorem ESt.done {l : Bs} {D E : List Bs} (h : ESt l D E) (he : l.length ≤ 2 * D.length + 1 + 7 * E.length) : Good l D E := by
  refine ⟨?_, h.sd, h.gd, h.se, h.ge, h.ed, h.nd⟩
  have h1 := h.eq
  rw [List.drop_eq_nil_of_le he] at h1
  simpa using h1

theorem ESt.good_next {l : Bs} {D E : List Bs} (h : ESt l D E) (hi : 2 * D.length + 1 + 7 * E.length < l.length) {D' E' : List Bs} (g : Good l D' E') :
    2 * D.length + 1 + 7 * E.length + 7 ≤ l.length ∧ entG ((l.drop (2 * D.length + 1 + 7 * E.length)).take 7) ∧ lastLt E ((l.drop (2 * D.length + 1 + 7 * E.length)).take 7) ∧ dotOf ((l.drop (2 * D.length + 1 + 7 * E.length)).take 7) ∈ D ∧
      dotOf ((l.drop (2 * D.length + 1 + 7 * E.length)).take 7) ∉ E.map dotOf ∧ D' = D ∧ E ++ [(l.drop (2 * D.length + 1 + 7 * E.length)).take 7] <+: E' := by
  obtain ⟨rfl, R, hR, e⟩ := h.at_good g
  cases R with
  | nil =>
    have := congrArg List.length e
    simp at this; omega
  | cons x R =>
    have hx : entG x := g.ge x (by rw [hR]; simp)
    have hl := entG_len hx
    have ex : (l.drop (2 * D'.length + 1 + 7 * E.length)).take 7 = x := by
      rw [e, List.flatten_cons, ← hl, List.take_left]
    have hlen := congrArg List.length e
    rw [List.length_drop, List.flatten_cons, List.length_append, hl] at hlen
    rw [ex]
    refine ⟨by omega, hx, lastLt_of_srt (by rw [← hR]; exact g.se), g.ed x (by rw [hR]; simp), ?_, rfl, ⟨R, by rw [hR]; simp⟩⟩
    intro hm
    obtain ⟨y, hy, hyx⟩ := List.mem_map.1 hm
    have hn := g.nd
    rw [hR, List.pairwise_append] at hn
    exact hn.2.2 y hy x List.mem_cons_self hyx

theorem ESt.next {l : Bs} {D E : List Bs} (h : ESt l D E) (hi : 2 * D.length + 1 + 7 * E.length + 7 ≤ l.length) (he : entG ((l.drop (2 * D.length + 1 + 7 * E.length)).take 7)) (hl : lastLt E ((l.drop (2 * D.length + 1 + 7 * E.length)).take 7))
    (hd : dotOf ((l.drop (2 * D.length + 1 + 7 * E.length)).take 7) ∈ D) (hn : dotOf ((l.drop (2 * D.length + 1 + 7 * E.length)).take 7) ∉ E.map dotOf) :
    ESt l D (E ++ [(l.drop (2 * D.length + 1 + 7 * E.length)).take 7]) := by
  refine ⟨?_, h.sd, h.gd, srt_snoc h.se hl, ?_, ?_, ?_, fun D' E' g => (h.good_next (by omega) g).2.2.2.2.2⟩
  · have h1 := h.eq
    rw [List.flatten_append, List.length_append]
    simp only [List.flatten_cons, List.flatten_nil, List.append_nil, List.length_singleton, List.append_assoc]
    rw [show 2 * D.length + 1 + 7 * (E.length + 1) = 2 * D.length + 1 + 7 * E.length + 7 by omega, ← List.drop_drop (i := 7) (j := 2 * D.length + 1 + 7 * E.length), List.take_append_drop]
    exact h1
  · intro x hm
    rcases List.mem_append.1 hm with hm | hm
    · exact h.ge x hm
    · rw [List.mem_singleton.1 hm]; exact he
  · intro x hm
    rcases List.mem_append.1 hm with hm | hm
    · exact h.ed x hm
    · rw [List.mem_singleton.1 hm]; exact hd
  · rw [List.pairwise_append]
    refine ⟨h.nd, by simp, ?_⟩
    intro x hx y hy e
    rw [List.mem_singleton.1 hy] at e
    exact hn (List.mem_map.2 ⟨x, hx, e⟩)
end Go.Proofs.YtalaldfgjgpacabGreatDoor
