import Derived.Test.YtalaldfgjgpacaaGreatDoorHAA
import Derived.Test.YtalaldfgjgpacaaGreatDoorHAB
import Derived.Laws.BytesString
import Derived.Test.YtalaldfgjgpacaaGreatDoorProg
import Derived.KernelRfl
namespace Go.Proofs.YtalaldfgjgpacaaGreatDoor
set_option linter.unusedVariables false
set_option linter.unusedSimpArgs false

theorem ofNat_lt {a b : Nat} (h : a < b) (hb : b < 256) : UInt8.ofNat a < UInt8.ofNat b := by
  rw [UInt8.lt_iff_toNat_lt, UInt8.toNat_ofNat', UInt8.toNat_ofNat']
  rw [Nat.mod_eq_of_lt (by omega), Nat.mod_eq_of_lt (by omega)]; exact h
theorem ofNat_inj {a b : Nat} (h : UInt8.ofNat a = UInt8.ofNat b) (ha : a < 256) (hb : b < 256) : a = b := by
  have := congrArg UInt8.toNat h
  rw [UInt8.toNat_ofNat', UInt8.toNat_ofNat', Nat.mod_eq_of_lt (by omega), Nat.mod_eq_of_lt (by omega)] at this; exact this
theorem dig_lt {a b : Nat} (h : a < b) (hb : b < 100) : dig a < dig b := ofNat_lt (by omega) (by omega)
theorem dig_inj {a b : Nat} (h : dig a = dig b) (ha : a < 100) (hb : b < 100) : a = b := by have := ofNat_inj h (by omega) (by omega); omega
theorem dig_toNat (a : Nat) (h : a < 100) : (dig a).toNat = 48 + a := by unfold dig; rw [UInt8.toNat_ofNat', Nat.mod_eq_of_lt (by omega)]
theorem cartB_lt {a b : Nat} (h : a < b) (hb : b < 100) : cartB a < cartB b := ofNat_lt (by omega) (by omega)
theorem cartB_inj {a b : Nat} (h : cartB a = cartB b) (ha : a < 100) (hb : b < 100) : a = b := by have := ofNat_inj h (by omega) (by omega); omega
theorem itemB_lt {a b : Nat} (h : a < b) (hb : b < 100) : itemB a < itemB b := ofNat_lt (by omega) (by omega)
theorem itemB_inj {a b : Nat} (h : itemB a = itemB b) (ha : a < 100) (hb : b < 100) : a = b := by have := ofNat_inj h (by omega) (by omega); omega

/-- A dot as text. -/
def dotT (r i : Nat) : Bs := [dig r, dig (i + 1)]

theorem dotT_inj {r i r' i' : Nat} (h : dotT r i = dotT r' i') (hr : r < 3) (hi : i < 9) (hr' : r' < 3) (hi' : i' < 9) : r = r' ∧ i = i' := by
  simp only [dotT, List.cons.injEq, and_true] at h
  have h1 := dig_inj h.1 (by omega) (by omega)
  have h2 := dig_inj h.2 (by omega) (by omega)
  omega

theorem valL_inj {v v' : Int} (h : valL v = valL v') (h0 : -99 ≤ v) (h1 : v ≤ 99) (h0' : -99 ≤ v') (h1' : v' ≤ 99) : v = v' := by
  simp only [valL, List.cons.injEq, and_true] at h
  obtain ⟨hs, ha, hb⟩ := h
  have e1 := dig_inj ha (by omega) (by omega)
  have e2 := dig_inj hb (by omega) (by omega)
  have e3 : v.natAbs = v'.natAbs := by omega
  by_cases hv : v < 0 <;> by_cases hv' : v' < 0
  · omega
  · rw [if_pos hv, if_neg hv'] at hs; exact absurd hs (by decide)
  · rw [if_neg hv, if_pos hv'] at hs; exact absurd hs (by decide)
  · omega

/-- What is not filled, what is not known, is nought. -/
def Pc.canon (p : Pc) : Prop := ∀ r i, r < 3 → i < 9 → (p r i).filled = false → (p r i).cart = 0 ∧ (p r i).item = 0 ∧ (p r i).value = 0

theorem text_dot (s : Sl) (r i : Nat) : dotOf (s.text r (i + 1)) = dotT r i := rfl
theorem text_len (s : Sl) (r i : Nat) : (s.text r i).length = 7 := rfl

structure Sl.good (s : Sl) : Prop where
  c0 : 0 ≤ s.cart
  c1 : s.cart < 3
  i0 : 0 ≤ s.item
  i1 : s.item < 4
  v0 : -99 ≤ s.value
  v1 : s.value ≤ 99

theorem Pc.ok.good {p : Pc} (h : p.ok) {r i : Nat} (hr : r < 3) (hi : i < 9) (hf : (p r i).filled = true) : (p r i).good :=
  let ⟨_, a, b, c, d, e, f⟩ := h r i hr hi hf
  ⟨a, b, c, d, e, f⟩

theorem text_inj {s s' : Sl} {r i r' i' : Nat} (h : s.text r (i + 1) = s'.text r' (i' + 1)) (hs : s.good) (hs' : s'.good) (hr : r < 3) (hi : i < 9) (hr' : r' < 3) (hi' : i' < 9) :
    r = r' ∧ i = i' ∧ s.cart = s'.cart ∧ s.item = s'.item ∧ s.value = s'.value := by
  simp only [Sl.text, List.cons_append, List.nil_append, List.cons.injEq] at h
  obtain ⟨h1, h2, h3, h4, h5⟩ := h
  obtain ⟨a1, a2, a3, a4, a5, a6⟩ := hs
  obtain ⟨b1, b2, b3, b4, b5, b6⟩ := hs'
  have e1 := cartB_inj h1 (by omega) (by omega)
  have e2 := itemB_inj h2 (by omega) (by omega)
  have e3 := dig_inj h3 (by omega) (by omega)
  have e4 := dig_inj h4 (by omega) (by omega)
  have e5 := valL_inj h5 a5 a6 b5 b6
  omega

/-- A piece, and the document's two lists. -/
structure RelP (p : Pc) (D E : List Bs) : Prop where
  sd : Srt D
  md : ∀ x, x ∈ D ↔ ∃ r i, r < 3 ∧ i < 9 ∧ (p r i).known = true ∧ x = dotT r i
  se : Srt E
  me : ∀ x, x ∈ E ↔ ∃ r i, r < 3 ∧ i < 9 ∧ (p r i).filled = true ∧ x = (p r i).text r (i + 1)

structure Pc.fine (p : Pc) : Prop where
  ok : p.ok
  canon : p.canon

theorem RelP.hasD {p : Pc} {D E : List Bs} (h : RelP p D E) {r i : Nat} (hr : r < 3) (hi : i < 9) : hasL D (dotT r i) = (p r i).known := by
  rw [Bool.eq_iff_iff, hasL_iff, h.md]
  constructor
  · rintro ⟨r', i', hr', hi', hk, e⟩
    obtain ⟨rfl, rfl⟩ := dotT_inj e hr hi hr' hi'
    exact hk
  · intro hk; exact ⟨r, i, hr, hi, hk, rfl⟩

theorem RelP.hasE {p : Pc} {D E : List Bs} (h : RelP p D E) (hp : p.ok) {s : Sl} {r i : Nat} (hr : r < 3) (hi : i < 9) (hs : s.good) :
    hasL E (s.text r (i + 1)) = ((p r i).filled && ((p r i).cart == s.cart && ((p r i).item == s.item && (p r i).value == s.value))) := by
  rw [Bool.eq_iff_iff, hasL_iff, h.me]
  constructor
  · rintro ⟨r', i', hr', hi', hk, e⟩
    obtain ⟨rfl, rfl, e1, e2, e3⟩ := text_inj e hs (hp.good hr' hi' hk) hr hi hr' hi'
    simp [hk, e1, e2, e3]
  · intro hk
    simp only [Bool.and_eq_true, beq_iff_eq] at hk
    obtain ⟨hk, e1, e2, e3⟩ := hk
    refine ⟨r, i, hr, hi, hk, ?_⟩
    unfold Sl.text
    rw [e1, e2, e3]

theorem RelP.ents_dots {p : Pc} {D E : List Bs} (h : RelP p D E) (hp : p.ok) : E.Pairwise (fun a b => dotOf a ≠ dotOf b) := by
  refine List.Pairwise.imp_of_mem ?_ h.se
  intro a b ha hb hlt e
  obtain ⟨r, i, hr, hi, hf, rfl⟩ := (h.me a).1 ha
  obtain ⟨r', i', hr', hi', hf', rfl⟩ := (h.me b).1 hb
  rw [text_dot, text_dot] at e
  obtain ⟨rfl, rfl⟩ := dotT_inj e hr hi hr' hi'
  exact lt_irr _ hlt

theorem RelP.uniq {p : Pc} {D E D' E' : List Bs} (h : RelP p D E) (k : RelP p D' E') : D = D' ∧ E = E' :=
  ⟨srt_ext h.sd k.sd (fun x => (h.md x).trans (k.md x).symm), srt_ext h.se k.se (fun x => (h.me x).trans (k.me x).symm)⟩

theorem rel_empty : RelP Pc.empty [] [] := by
  refine ⟨List.Pairwise.nil, ?_, List.Pairwise.nil, ?_⟩
  · intro x; simp [Pc.empty, Sl.zero]
  · intro x; simp [Pc.empty, Sl.zero]

theorem joinSl_known (a b : Sl) : (joinSl a b).known = (a.known || b.known) := by
  unfold joinSl
  cases ha : a.known
  · simp
  · simp only [if_true]
    split
    · simp [ha]
    · simp

theorem Sl.eq_of_same {a b : Sl} (h : Sl.same a b = true) : a = b := by
  simp only [Sl.same, Bool.and_eq_true, beq_iff_eq] at h
  exact Sl.ext' h.1 h.2.1 h.2.2.1 h.2.2.2.1 h.2.2.2.2

theorem join_fine {p q : Pc} (hp : p.fine) (hq : q.fine) : (p.join q).fine := by
  constructor
  · intro r i hr hi
    unfold Pc.join joinSl
    split
    · split
      · exact hp.ok r i hr hi
      · intro h; simp at h
    · exact hq.ok r i hr hi
  · intro r i hr hi
    unfold Pc.join joinSl
    split
    · split
      · exact hp.canon r i hr hi
      · intro h; simp
    · exact hq.canon r i hr hi

/-- The join of two pieces is the join of their lists. -/
theorem rel_join {p q : Pc} {D E D' E' : List Bs} (h : RelP p D E) (k : RelP q D' E') (hp : p.fine) (hq : q.fine) : RelP (p.join q) (joinD D D') (joinE D E D' E') := by
  refine ⟨?_, ?_, ?_, ?_⟩
  · refine srt_insAll _ _ _ _ h.sd ?_ ?_
    · intro e he hc; simpa [hasL] using hc
    · exact List.Pairwise.imp (fun {a b} hlt _ _ e => lt_irr _ (by simp only [id] at e; rw [← e] at hlt; exact hlt)) k.sd
  · intro x
    unfold joinD
    rw [mem_insAll, h.md]
    constructor
    · rintro (⟨r, i, hr, hi, hk, rfl⟩ | ⟨e, he, _, rfl⟩)
      · exact ⟨r, i, hr, hi, by rw [Pc.join, joinSl_known, hk]; rfl, rfl⟩
      · obtain ⟨r, i, hr, hi, hk, rfl⟩ := (k.md _).1 he
        exact ⟨r, i, hr, hi, by rw [Pc.join, joinSl_known, hk]; simp, rfl⟩
    · rintro ⟨r, i, hr, hi, hk, rfl⟩
      rw [Pc.join, joinSl_known] at hk
      cases hpk : (p r i).known with
      | true => exact .inl ⟨r, i, hr, hi, hpk, rfl⟩
      | false =>
        rw [hpk] at hk
        refine .inr ⟨dotT r i, (k.md _).2 ⟨r, i, hr, hi, by simpa using hk, rfl⟩, ?_, rfl⟩
        rw [h.hasD hr hi, hpk]; rfl
  · refine srt_insAll _ _ _ _ (srt_insAll _ _ _ _ List.Pairwise.nil (fun _ _ _ => by simp) ?_) ?_ ?_
    · exact List.Pairwise.imp (fun {a b} hlt _ _ e => lt_irr _ (by simp only [id] at e; rw [← e] at hlt; exact hlt)) h.se
    · intro e he hc hm
      rw [mem_insAll] at hm
      rcases hm with hm | ⟨e', he', _, ee⟩
      · simp at hm
      · simp only [id] at ee
        subst ee
        obtain ⟨r, i, hr, hi, hf, rfl⟩ := (h.me _).1 he'
        rw [text_dot, h.hasD hr hi, (hp.ok r i hr hi hf).1] at hc
        simp at hc
    · exact List.Pairwise.imp (fun {a b} hlt _ _ e => lt_irr _ (by simp only [id] at e; rw [← e] at hlt; exact hlt)) k.se
  · intro x
    unfold joinE
    rw [mem_insAll, mem_insAll]
    constructor
    · rintro ((hx | ⟨e, he, hc, rfl⟩) | ⟨e, he, hc, rfl⟩)
      · simp at hx
      · obtain ⟨r, i, hr, hi, hf, rfl⟩ := (h.me _).1 he
        have hg := hp.ok.good hr hi hf
        have hkn := (hp.ok r i hr hi hf).1
        rw [k.hasE hq.ok hr hi hg, text_dot, k.hasD hr hi] at hc
        have hj : (p.join q) r i = p r i := by
          unfold Pc.join joinSl
          rw [if_pos hkn]
          rw [if_pos]
          cases hqk : (q r i).known with
          | false => simp
          | true =>
            rw [hqk] at hc
            simp only [Bool.not_true, Bool.or_false, Bool.and_eq_true, beq_iff_eq] at hc
            simp [Sl.same, hkn, hf, hqk, hc.1, hc.2.1, hc.2.2.1, hc.2.2.2]
        exact ⟨r, i, hr, hi, by rw [hj]; exact hf, by rw [hj]⟩
      · obtain ⟨r, i, hr, hi, hf, rfl⟩ := (k.me _).1 he
        rw [text_dot, h.hasD hr hi] at hc
        have hpk : (p r i).known = false := by simpa using hc
        have hj : (p.join q) r i = q r i := by
          unfold Pc.join joinSl
          rw [hpk]; rfl
        exact ⟨r, i, hr, hi, by rw [hj]; exact hf, by rw [hj]⟩
    · rintro ⟨r, i, hr, hi, hf, rfl⟩
      cases hpk : (p r i).known with
      | false =>
        have hj : (p.join q) r i = q r i := by
          unfold Pc.join joinSl
          rw [hpk]; rfl
        rw [hj] at hf ⊢
        refine .inr ⟨_, (k.me _).2 ⟨r, i, hr, hi, hf, rfl⟩, ?_, rfl⟩
        rw [text_dot, h.hasD hr hi, hpk]; rfl
      | true =>
        cases hs : (!(q r i).known || Sl.same (p r i) (q r i)) with
        | false =>
          have hj : (p.join q) r i = ⟨true, false, 0, 0, 0⟩ := by
            unfold Pc.join joinSl
            rw [hpk, hs]; rfl
          rw [hj] at hf; simp at hf
        | true =>
          have hj : (p.join q) r i = p r i := by
            unfold Pc.join joinSl
            rw [hpk, hs]; rfl
          rw [hj] at hf ⊢
          refine .inl (.inr ⟨_, (h.me _).2 ⟨r, i, hr, hi, hf, rfl⟩, ?_, rfl⟩)
          rw [k.hasE hq.ok hr hi (hp.ok.good hr hi hf), text_dot, k.hasD hr hi]
          cases hqk : (q r i).known with
          | false => simp
          | true =>
            rw [hqk] at hs
            have he := Sl.eq_of_same (show Sl.same (p r i) (q r i) = true by simpa using hs)
            rw [← he, hf]; simp

end Go.Proofs.YtalaldfgjgpacaaGreatDoor

namespace Go.Proofs.YtalaldfgjgpacaaGreatDoor
set_option linter.unusedVariables false
set_option linter.unusedSimpArgs false
open Go.RowKit

theorem dd_len : ∀ (k u : Nat), u < 10 ^ (k + 1) → (Lib.decDigits u).length ≤ k + 1 := by
  intro k
  induction k with
  | zero => intro u hu; rw [Lib.decDigits, dif_pos (by simpa using hu)]; simp
  | succ k ih =>
    intro u hu
    rw [Lib.decDigits]
    split
    · simp
    · have : u / 10 < 10 ^ (k + 1) := by
        rw [Nat.div_lt_iff_lt_mul (by decide)]
        rw [Nat.pow_succ] at hu; exact hu
      have := ih _ this
      simp; omega

theorem itoa_len (z : Int) (h0 : -9999 ≤ z) (h1 : z ≤ 9999) : (Lib.itoa z).length ≤ 5 := by
  unfold Lib.itoa
  split
  · have := dd_len 3 z.natAbs (by omega); simp; omega
  · have := dd_len 3 z.toNat (by omega); omega

theorem blw_grow (w : World) (k : Nat) (os : Array Obj) : Blw w (Sort.grow (w.drewN k) os) := by
  refine ⟨rfl, rfl, rfl, ?_, ?_⟩
  · simp [Sort.grow]
  · intro i hi
    show (w.heap ++ os)[i]? = _
    rw [Array.getElem?_append_left hi]

theorem Tab.lt {P : Program} {w : World} (h : Tab P w) (g : Nat) (hg : P.globalNamed "internal/strconv.uint64pow10" = some g) : g < w.heap.size := by
  unfold Tab Lib.TabIs World.var? at h
  rw [hg] at h
  simp only [Option.bind_some] at h
  rcases Nat.lt_or_ge g w.heap.size with hb | hb
  · exact hb
  · rw [Array.getElem?_eq_none hb] at h; simp at h

theorem Tab.blw {P : Program} {w w' : World} (h : Tab P w) (hb : Blw w w') : Tab P w' := h.on fun g hg => hb.bk g (h.lt g hg)

theorem itoa_any (z : Int) (w : World) (h0 : -9999 ≤ z) (h1 : z ≤ 9999) (ht : Tab Tryz.prog w) :
    Calls Tryz.prog 80 #[.int .i64 z] w fun e w' => e = .returned (.string ⟨(Lib.itoa z).toArray⟩) ∧ Blw w w' :=
  (Tryz.strconv_Itoa z (by omega) (by omega) w ht).mono fun _ _ h => ⟨h.1, by obtain ⟨k, os, hk⟩ := h.2; rw [hk]; exact blw_grow _ _ _⟩


theorem itoa_digit (d : Nat) (hd : d < 10) (w : World) : Calls Tryz.prog 80 #[.int .i64 d] w fun e w' => e = .returned (.string ⟨#[dig (d)]⟩) ∧ w' = w := by
  have h := Tryz.strconv_Itoa_small d (by omega) w
  rw [Lib.decDigits, dif_pos hd] at h
  exact h

theorem itoa_small (d : Nat) (hd : d < 100) (w : World) : Calls Tryz.prog 80 #[.int .i64 d] w fun e w' => e = .returned (.string ⟨(if d < 10 then [dig (d)] else [dig (d / 10), dig (d % 10)]).toArray⟩) ∧ w' = w := by
  have h := Tryz.strconv_Itoa_small d hd w
  rw [Lib.decDigits] at h
  split at h
  · rw [if_pos ‹_›]; exact h
  · rw [if_neg ‹_›]
    rw [Lib.decDigits, dif_pos (by omega)] at h
    exact h

def lenV : Value → Nat
  | .string s => s.size
  | _ => 0

def zer (k : Nat) (l : List UInt8) : List UInt8 := List.replicate k 48 ++ l
theorem zer_len (k : Nat) (l : List UInt8) : (zer k l).length = k + l.length := by simp [zer]
theorem zer_succ (k : Nat) (l : List UInt8) : zer (k + 1) l = [48] ++ zer k l := by simp [zer, List.replicate_succ]
theorem bytes_app' (x y : List UInt8) : (ByteArray.mk x.toArray ++ ByteArray.mk y.toArray) = ByteArray.mk (x ++ y).toArray := ByteArray.mk_append_mk x y
theorem ba_size (l : List UInt8) : (ByteArray.mk l.toArray).size = l.length := by simp [ByteArray.size]

set_option maxHeartbeats 400000 in
theorem fill_any (l : List UInt8) (wd : Nat) (w : World) (hl : l.length ≤ wd) (hw : wd ≤ 9) :
    Calls Tryz.prog 133 #[.string ⟨l.toArray⟩, .int .i64 wd] w fun e w' => e = .returned (.string ⟨(zer (wd - l.length) l).toArray⟩) ∧ w' = w := by
  go_enter Tryz.func133, Tryz.ntmps133
  go_wp2
  go_loop [0] (fun s => ∃ k : Nat, k + l.length ≤ wd ∧ s = .string ⟨(zer k l).toArray⟩) (fun s => wd - lenV s)
  case atStart => exact ⟨0, by omega, by simp [zer]⟩
  case round =>
    obtain ⟨k, hk, rfl⟩ := hrel
    have hz := zer_len k l
    have HS := hid (zer_succ k l)
    by_cases hlt : k + l.length < wd
    · generalize zer k l = z at *
      go_wp2
      go_round
      case rel => exact ⟨k + 1, by omega, by rw [HS.out, ← bytes_app']⟩
      case measure => simp [lenV, ba_size]; omega
    · have hkn : k = wd - l.length := by omega
      have HK : Hid (zer (wd - l.length) l = zer k l) := by rw [hkn]; exact rfl
      clear hkn HS
      generalize zer k l = z at *
      go_wp2
      go_ret
      exact ⟨by rw [HK.out]; rfl, rfl⟩

set_option maxHeartbeats 400000 in
theorem two_any (d : Nat) (w : World) (hd : d < 100) :
    Calls Tryz.prog 81 #[.int .i64 d] w fun e w' => e = .returned (.string ⟨#[dig (d / 10), dig (d % 10)]⟩) ∧ w' = w := by
  have HF := hid (fun l hl wx => fill_any l 2 wx hl (by omega))
  obtain ⟨l, hl⟩ : ∃ l, l = (if d < 10 then [dig (d)] else [dig (d / 10), dig (d % 10)]) := ⟨_, rfl⟩
  have HL : Hid (zer (2 - l.length) l = [dig (d / 10), dig (d % 10)]) := by
    show zer (2 - l.length) l = [dig (d / 10), dig (d % 10)]
    rw [hl]
    split
    · rename_i h; rw [Nat.div_eq_of_lt h, Nat.mod_eq_of_lt h]; rfl
    · rfl
  have hll : l.length ≤ 2 := by rw [hl]; split <;> simp
  have HI := hid (itoa_small d hd w)
  rw [← hl] at HI
  clear hl
  go_enter Tryz.func81, Tryz.ntmps81
  go_wp2_with fail
  refine HI.out.mono ?_
  rintro e w1 ⟨rfl, rfl⟩
  go_wp2_with fail
  refine (HF.out l hll _).mono ?_
  rintro e w2 ⟨rfl, rfl⟩
  go_wp2
  go_ret
  exact ⟨by rw [HL.out]; rfl, rfl⟩

theorem itoa_three (d : Nat) (hd : d < 1000) : zer (3 - (Lib.itoa (d : Int)).length) (Lib.itoa (d : Int)) = [dig (d / 100), dig (d / 10 % 10), dig (d % 10)] ∧ (Lib.itoa (d : Int)).length ≤ 3 := by
  have e : Lib.itoa (d : Int) = Lib.decDigits d := by
    unfold Lib.itoa; rw [if_neg (by omega)]; rfl
  rw [e, Lib.decDigits]
  split
  · rename_i h
    have h1 : d / 100 = 0 := by omega
    have h2 : d / 10 % 10 = 0 := by omega
    have h3 : d % 10 = d := by omega
    rw [h1, h2, h3]; exact ⟨rfl, by simp⟩
  · rw [Lib.decDigits]
    split
    · have h1 : d / 100 = 0 := by omega
      have h2 : d / 10 % 10 = d / 10 := by omega
      rw [h1, h2]; exact ⟨rfl, by simp⟩
    · rw [Lib.decDigits, dif_pos (by omega)]
      have h1 : d / 10 / 10 = d / 100 := by omega
      rw [h1]; exact ⟨rfl, by simp⟩

set_option maxHeartbeats 400000 in
theorem three_any (d : Nat) (w : World) (hd : d < 1000) (ht : Tab Tryz.prog w) :
    Calls Tryz.prog 162 #[.int .i64 d] w fun e w' => e = .returned (.string ⟨#[dig (d / 100), dig (d / 10 % 10), dig (d % 10)]⟩) ∧ Blw w w' := by
  have HF := hid (fun l hl wx => fill_any l 3 wx hl (by omega))
  have HI := hid (itoa_any (d : Int) w (by omega) (by omega) ht)
  have HT := hid (itoa_three d hd)
  clear ht
  generalize Lib.itoa (d : Int) = l at *
  go_enter Tryz.func162, Tryz.ntmps162
  go_wp2_with fail
  refine HI.out.mono ?_
  rintro e w1 ⟨rfl, b1⟩
  go_wp2_with fail
  refine (HF.out l HT.out.2 _).mono ?_
  rintro e w2 ⟨rfl, rfl⟩
  go_wp2
  go_ret
  exact ⟨by rw [HT.out.1]; rfl, b1⟩

end Go.Proofs.YtalaldfgjgpacaaGreatDoor

namespace Go.Proofs.YtalaldfgjgpacaaGreatDoor
set_option linter.unusedVariables false
set_option linter.unusedSimpArgs false
open Go.RowKit
variable {xt : Ext}

theorem size63 : (Tryz.prog.info? 65).map (·.size) = some 135 := by kernel_rfl

/-- The parts of an address, of a row. -/
def blkOf : Value → Nat
  | .pointer (some a) => a.block
  | _ => 0
def offOf : Value → Nat
  | .pointer (some a) => a.off
  | _ => 0
def isPt : Value → Bool
  | .pointer (some ⟨_, _, none⟩) => true
  | _ => false
def listOf : Value → List Value
  | .agg cs => cs.toList
  | _ => []
theorem blkOf_mk (b o : Nat) (s : Option Nat) : blkOf (.pointer (some ⟨b, o, s⟩)) = b := rfl
theorem offOf_mk (b o : Nat) (s : Option Nat) : offOf (.pointer (some ⟨b, o, s⟩)) = o := rfl
theorem isPt_mk (b o : Nat) : isPt (.pointer (some ⟨b, o, none⟩)) = true := rfl

/-- A piece's cells lie there. -/
def Has (w : World) (b o : Nat) : Prop := ∀ j, j < 135 → (w.cell? ⟨b, o + j, none⟩).isSome = true
def rowOf (w : World) (b o : Nat) : Array Value := ((List.range 135).map fun j => (w.cell? ⟨b, o + j, none⟩).getD undef).toArray
def HasW (w : World) (b o : Nat) : Prop := w.there b o 135
def isRow (v : Value) : Prop := (listOf v).length = 135 ∧ (∃ cs, v = .agg cs) ∧ ∀ x ∈ listOf v, x.oneCell' = true
def putRowAt (w : World) (b o : Nat) (v : Value) : World := w.setCells b o (listOf v)

theorem isPt_form {v : Value} (h : isPt v = true) : v = .pointer (some ⟨blkOf v, offOf v, none⟩) := by
  unfold isPt at h
  split at h
  · rfl
  · cases h

theorem run_load63 (ρ : Operand → Value) (d : Option Tmp) (x : Operand) (ty : TypeId) (pos : String) (after : Array Edge) (g : Option (Nat × Bool)) (w : World)
    (h1 : isPt (ρ x) = true) (h2 : Has w (blkOf (ρ x)) (offOf (ρ x))) :
    (execOp ρ ⟨d, .load 65 x, ty, pos, after, g⟩).run Tryz.prog w = .ok (.value (.agg (rowOf w (blkOf (ρ x)) (offOf (ρ x))))) w := by
  have hx := isPt_form h1
  generalize blkOf (ρ x) = b at *
  generalize offOf (ρ x) = o at *
  unfold execOp
  simp only [hx]
  have := run_loadAt_mid (P := Tryz.prog) w b o 65 ((List.range 135).map fun j => (w.cell? ⟨b, o + j, none⟩).getD undef) _ (by
    intro j v hv
    have hj : j < 135 := by
      have := (List.getElem?_eq_some_iff.1 hv).1; simpa using this
    have hs := h2 j hj
    obtain ⟨u, hu⟩ := Option.isSome_iff_exists.1 hs
    simp [hj, hu] at hv
    rw [hu, hv]) Tryz.underlying65 rfl (by rw [size63]; simp)
  simp only [Sem.run_bind, this, Result.andThen_ok, Sem.run_pure]
  rfl

theorem run_store63 (ρ : Operand → Value) (d : Option Tmp) (x y : Operand) (ty : TypeId) (pos : String) (after : Array Edge) (g : Option (Nat × Bool)) (w : World)
    (h1 : isPt (ρ x) = true) (h2 : HasW w (blkOf (ρ x)) (offOf (ρ x))) (h3 : isRow (ρ y)) :
    (execOp ρ ⟨d, .store 65 x y, ty, pos, after, g⟩).run Tryz.prog w = .ok .skip (putRowAt w (blkOf (ρ x)) (offOf (ρ x)) (ρ y)) := by
  have hx := isPt_form h1
  generalize blkOf (ρ x) = b at *
  generalize offOf (ρ x) = o at *
  obtain ⟨hl, ⟨cs, hcs⟩, hone⟩ := h3
  unfold execOp
  simp only [hx]
  rw [hcs] at hl hone ⊢
  have hsz : cs.size = 135 := by simpa [listOf] using hl
  have := run_storeAt_mid (P := Tryz.prog) w b o 65 cs (by rw [hsz]; exact h2) (by rw [size63, hsz]) (Array.all_eq_true_iff_forall_mem.2 (fun v hv => hone v (by simpa [listOf] using hv)))
  simp only [Sem.run_bind, this, Result.andThen_ok, Sem.run_pure]
  rfl

theorem Has_of {w : World} {b o : Nat} {C : Array Value} {t : TypeId} (h : w.heap[b]? = some (.cells C t)) (hs : o + 135 ≤ C.size) : Has w b o := fun j hj => by
  rw [blk_cell h]; simp; omega
theorem HasW_of {w : World} {b o : Nat} {C : Array Value} {t : TypeId} (h : w.heap[b]? = some (.cells C t)) (hs : o + 135 ≤ C.size) : HasW w b o := fun j hj => by
  refine ⟨?_, blk_frozen h _⟩
  rw [blk_cell h]; simp; omega
theorem rowOf_pc {w : World} {b : Nat} {p : Pc} {t : TypeId} (h : w.heap[b]? = some (.cells p.arr t)) : rowOf w b 0 = p.arr := by
  have : ((List.range 135).map fun j => (w.cell? ⟨b, 0 + j, none⟩).getD undef) = p.cells := by
    unfold Pc.cells
    refine List.map_congr_left fun j hj => ?_
    have hj' : j < 135 := by simpa using hj
    rw [blk_cell h, Nat.zero_add, Pc.at p j hj']; rfl
  unfold rowOf Pc.arr; rw [this]
theorem rowOf_rep {w : World} {b me n : Nat} {p : Pc} {t : TypeId} (h : w.heap[b]? = some (.cells (repArr me n p xt) t)) : rowOf w b 2 = p.arr := by
  have : ((List.range 135).map fun j => (w.cell? ⟨b, 2 + j, none⟩).getD undef) = p.cells := by
    unfold Pc.cells
    refine List.map_congr_left fun j hj => ?_
    have hj' : j < 135 := by simpa using hj
    have hr := rep_range h j _ (List.getElem?_eq_getElem (by rw [Pc.len]; exact hj'))
    rw [hr]
    simp [Pc.cells]
  unfold rowOf Pc.arr; rw [this]
theorem Has_rep {w : World} {b me n : Nat} {p : Pc} {t : TypeId} (h : w.heap[b]? = some (.cells (repArr me n p xt) t)) : Has w b 2 := Has_of h (by rw [repArr_size]; decide)
theorem HasW_rep {w : World} {b me n : Nat} {p : Pc} {t : TypeId} (h : w.heap[b]? = some (.cells (repArr me n p xt) t)) : HasW w b 2 := HasW_of h (by rw [repArr_size]; decide)
theorem Has_pc {w : World} {b : Nat} {p : Pc} {t : TypeId} (h : w.heap[b]? = some (.cells p.arr t)) : Has w b 0 := Has_of h (by rw [Pc.size]; decide)
theorem HasW_pc {w : World} {b : Nat} {p : Pc} {t : TypeId} (h : w.heap[b]? = some (.cells p.arr t)) : HasW w b 0 := HasW_of h (by rw [Pc.size]; decide)
theorem isRow_pc (p : Pc) : isRow (.agg p.arr) := ⟨by simp [listOf, Pc.arr, Pc.len], ⟨_, rfl⟩, fun x hx => Pc.one p x (by simpa [listOf, Pc.arr] using hx)⟩

theorem put_rep {w : World} {b me n : Nat} {p q : Pc} {t : TypeId} (h : w.heap[b]? = some (.cells (repArr me n p xt) t)) : (putRowAt w b 2 (.agg q.arr)).heap[b]? = some (.cells (repArr me n q xt) t) := by
  show (w.setCells b 2 (q.arr.toList)).heap[b]? = _
  rw [show q.arr.toList = q.cells from by simp [Pc.arr], heap_setCells_self _ h, rep_splice]
theorem put_pc {w : World} {b : Nat} {C : Array Value} {q : Pc} {t : TypeId} (h : w.heap[b]? = some (.cells C t)) (hC : C.size = 135) : (putRowAt w b 0 (.agg q.arr)).heap[b]? = some (.cells q.arr t) := by
  show (w.setCells b 0 (q.arr.toList)).heap[b]? = _
  rw [show q.arr.toList = q.cells from by simp [Pc.arr], heap_setCells_self _ h, splice_all _ _ (by rw [Pc.len]; omega)]; rfl
theorem put_ne {w : World} {b b' o : Nat} {v : Value} (h : b' ≠ b) : (putRowAt w b o v).heap[b']? = w.heap[b']? := heap_setCells_ne _ h
theorem put_size {w : World} {b o : Nat} {v : Value} : (putRowAt w b o v).heap.size = w.heap.size := size_setCells _
theorem put_bx {b : Nat} {a w : World} (h : Bx b a w) (o : Nat) (v : Value) : Bx b a (putRowAt w b o v) := h.scs _ _
theorem put_blw {b : Nat} {a w : World} (h : Blw a w) (o : Nat) (v : Value) (hb : a.heap.size ≤ b) : Blw a (putRowAt w b o v) := h.scs _ _ _ hb

theorem Has_drew (w : World) (b o : Nat) : Has w.drew b o = Has w b o := rfl
theorem HasW_drew (w : World) (b o : Nat) : HasW w.drew b o = HasW w b o := rfl
theorem rowOf_drew (w : World) (b o : Nat) : rowOf w.drew b o = rowOf w b o := rfl

theorem cell_al {w : World} {b o : Nat} (ob : Obj) (h : b < w.heap.size) : (w.alloc ob).cell? ⟨b, o, none⟩ = w.cell? ⟨b, o, none⟩ := World.cell?_of_block (w := w) (Below.heap_alloc w ob b h)
theorem Has_alloc (w : World) (ob : Obj) (b o : Nat) (h : b < w.heap.size) : Has (w.alloc ob) b o = Has w b o := by
  unfold Has; simp only [cell_al ob h]
theorem rowOf_alloc (w : World) (ob : Obj) (b o : Nat) (h : b < w.heap.size) : rowOf (w.alloc ob) b o = rowOf w b o := by
  unfold rowOf; simp only [cell_al ob h]
theorem cell_put (w : World) (b' o' b o : Nat) (v : Value) (h : b ≠ b') : (putRowAt w b' o' v).cell? ⟨b, o, none⟩ = w.cell? ⟨b, o, none⟩ := cell_setCells_ne _ _ h
theorem Has_put (w : World) (b' o' b o : Nat) (v : Value) (h : b ≠ b') : Has (putRowAt w b' o' v) b o = Has w b o := by
  unfold Has; simp only [cell_put w b' o' b _ v h]
theorem rowOf_put (w : World) (b' o' b o : Nat) (v : Value) (h : b ≠ b') : rowOf (putRowAt w b' o' v) b o = rowOf w b o := by
  unfold rowOf; simp only [cell_put w b' o' b _ v h]
theorem zero63 : Tryz.zeroCells65 = Pc.empty.arr := by kernel_rfl
theorem zsize63 : Tryz.zeroCells65.size = 135 := by rw [zero63, Pc.size]
theorem HasW_new (w : World) : HasW (w.alloc (.cells Tryz.zeroCells65 65)) w.heap.size 0 = True := by
  have : HasW (w.alloc (.cells Tryz.zeroCells65 65)) w.heap.size 0 := HasW_of (hp_new _ _) (by rw [zsize63]; decide)
  simp [this]
theorem put_new {w : World} {q : Pc} : (putRowAt (w.alloc (.cells Tryz.zeroCells65 65)) w.heap.size 0 (.agg q.arr)).heap[w.heap.size]? = some (.cells q.arr 65) := put_pc (hp_new _ _) zsize63
theorem lt_ne' {a b : Nat} (h : a < b) : a ≠ b := Nat.ne_of_lt h
end Go.Proofs.YtalaldfgjgpacaaGreatDoor

namespace Go.Proofs.YtalaldfgjgpacaaGreatDoor
set_option linter.unusedVariables false
set_option linter.unusedSimpArgs false

/-- The dots of the first n slots; of some slots of one replica; their text. -/
def Pc.dlTo (p : Pc) : Nat → List Bs
  | 0 => []
  | n + 1 => p.dlTo n ++ (if (p.nth n).known then [dotT (n / 9) (n % 9)] else [])
def Pc.rowTo (p : Pc) (r : Nat) : Nat → List Bs
  | 0 => []
  | n + 1 => p.rowTo r n ++ (if (p r n).known then [dotT r n] else [])
def Pc.dtTo (p : Pc) : Nat → Bs
  | 0 => []
  | n + 1 => p.dtTo n ++ (if (p.nth n).known then dotT (n / 9) (n % 9) else [])

theorem dtTo_flat (p : Pc) (n : Nat) : (p.dlTo n).flatten = p.dtTo n := by
  induction n with
  | zero => rfl
  | succ n ih =>
    simp only [Pc.dlTo, Pc.dtTo, List.flatten_append, ih]
    split <;> simp

theorem dtTo_len (p : Pc) (n : Nat) : (p.dtTo n).length ≤ 2 * n := by
  induction n with
  | zero => simp [Pc.dtTo]
  | succ n ih =>
    simp only [Pc.dtTo, List.length_append]
    split
    · simp [dotT]; omega
    · simp; omega

theorem dtTo_succ (p : Pc) (k m : Nat) (hm : m < 9) : p.dtTo (k * 9 + (m + 1)) = p.dtTo (k * 9 + m) ++ (if (p k m).known then dotT k m else []) := by
  show p.dtTo (k * 9 + m + 1) = _
  rw [Pc.dtTo, Pc.nth_ri _ _ _ hm]
  have e1 : (k * 9 + m) / 9 = k := by omega
  have e2 : (k * 9 + m) % 9 = m := by omega
  rw [e1, e2]

theorem dlTo_row (p : Pc) (k m : Nat) (hm : m ≤ 9) : p.dlTo (k * 9 + m) = p.dlTo (k * 9) ++ p.rowTo k m := by
  induction m with
  | zero => simp [Pc.rowTo]
  | succ m ih =>
    show p.dlTo (k * 9 + m + 1) = _
    rw [Pc.dlTo, ih (by omega), Pc.rowTo, Pc.nth_ri _ _ _ (by omega)]
    have e1 : (k * 9 + m) / 9 = k := by omega
    have e2 : (k * 9 + m) % 9 = m := by omega
    rw [e1, e2, List.append_assoc]

theorem mem_dlTo (p : Pc) (n : Nat) (x : Bs) : x ∈ p.dlTo n ↔ ∃ m, m < n ∧ (p.nth m).known = true ∧ x = dotT (m / 9) (m % 9) := by
  induction n with
  | zero => simp [Pc.dlTo]
  | succ n ih =>
    rw [Pc.dlTo, List.mem_append, ih]
    constructor
    · rintro (⟨m, hm, hk, rfl⟩ | h)
      · exact ⟨m, by omega, hk, rfl⟩
      · split at h
        · rename_i hk; exact ⟨n, by omega, hk, by simpa using h⟩
        · simp at h
    · rintro ⟨m, hm, hk, rfl⟩
      by_cases e : m = n
      · subst e; right; rw [if_pos hk]; simp
      · exact .inl ⟨m, by omega, hk, rfl⟩

theorem dotT_lt {m n : Nat} (h : m < n) (hn : n < 27) : dotT (m / 9) (m % 9) < dotT (n / 9) (n % 9) := by
  unfold dotT
  rw [List.cons_lt_cons_iff]
  by_cases e : m / 9 = n / 9
  · right
    refine ⟨by rw [e], ?_⟩
    rw [List.cons_lt_cons_iff]
    left; exact dig_lt (by omega) (by omega)
  · left; exact dig_lt (by omega) (by omega)

theorem srt_dlTo (p : Pc) (n : Nat) (hn : n ≤ 27) : Srt (p.dlTo n) := by
  induction n with
  | zero => exact List.Pairwise.nil
  | succ n ih =>
    rw [Pc.dlTo]
    refine srt_app (ih (by omega)) (by split <;> simp [Srt]) ?_
    intro x hx y hy
    obtain ⟨m, hm, _, rfl⟩ := (mem_dlTo p n x).1 hx
    split at hy
    · have hy' := List.mem_singleton.1 hy
      subst hy'
      exact dotT_lt hm (by omega)
    · simp at hy

/-- The entries of an item in a cart, of the first n slots; of the first n items. -/
def Pc.elTo (p : Pc) (c it : Int) : Nat → List Bs
  | 0 => []
  | n + 1 => p.elTo c it n ++ (if (p.nth n).isOf c it then [(p.nth n).text (n / 9) (n % 9 + 1)] else [])
def Pc.elAll (p : Pc) : Nat → List Bs
  | 0 => []
  | n + 1 => p.elAll n ++ p.elTo ((n / 4 : Nat) : Int) ((n % 4 : Nat) : Int) 27

theorem textTo_flat (p : Pc) (c it : Int) (n : Nat) : (p.elTo c it n).flatten = p.textTo c it n := by
  induction n with
  | zero => rfl
  | succ n ih =>
    simp only [Pc.elTo, Pc.textTo, List.flatten_append, ih]
    split <;> simp

theorem mem_elTo (p : Pc) (c it : Int) (n : Nat) (x : Bs) : x ∈ p.elTo c it n ↔ ∃ m, m < n ∧ (p.nth m).isOf c it = true ∧ x = (p.nth m).text (m / 9) (m % 9 + 1) := by
  induction n with
  | zero => simp [Pc.elTo]
  | succ n ih =>
    rw [Pc.elTo, List.mem_append, ih]
    constructor
    · rintro (⟨m, hm, hk, rfl⟩ | h)
      · exact ⟨m, by omega, hk, rfl⟩
      · split at h
        · rename_i hk; exact ⟨n, by omega, hk, by simpa using h⟩
        · simp at h
    · rintro ⟨m, hm, hk, rfl⟩
      by_cases e : m = n
      · subst e; right; rw [if_pos hk]; simp
      · exact .inl ⟨m, by omega, hk, rfl⟩

theorem isOf_eq {s : Sl} {c it : Int} (h : s.isOf c it = true) : s.filled = true ∧ s.cart = c ∧ s.item = it := by
  simp only [Sl.isOf, Bool.and_eq_true, beq_iff_eq] at h; exact h

theorem srt_elTo (p : Pc) (c it : Int) (n : Nat) (hn : n ≤ 27) : Srt (p.elTo c it n) := by
  induction n with
  | zero => exact List.Pairwise.nil
  | succ n ih =>
    rw [Pc.elTo]
    refine srt_app (ih (by omega)) (by split <;> simp [Srt]) ?_
    intro x hx y hy
    obtain ⟨m, hm, hk, rfl⟩ := (mem_elTo p c it n x).1 hx
    split at hy
    · rename_i hk'
      have hy' := List.mem_singleton.1 hy
      subst hy'
      obtain ⟨_, c1, i1⟩ := isOf_eq hk
      obtain ⟨_, c2, i2⟩ := isOf_eq hk'
      unfold Sl.text
      rw [c1, i1, c2, i2]
      simp only [List.cons_append, List.nil_append]
      have hd := dotT_lt hm (show n < 27 by omega)
      unfold dotT at hd
      rw [List.cons_lt_cons_iff]; right; refine ⟨rfl, ?_⟩
      rw [List.cons_lt_cons_iff]; right; refine ⟨rfl, ?_⟩
      rw [List.cons_lt_cons_iff] at hd ⊢
      rcases hd with hd | ⟨hd, hd2⟩
      · exact .inl hd
      · refine .inr ⟨hd, ?_⟩
        rw [List.cons_lt_cons_iff] at hd2 ⊢
        rcases hd2 with hd2 | ⟨_, hd2⟩
        · exact .inl hd2
        · exact absurd hd2 (by simp)
    · simp at hy

theorem mem_elAll (p : Pc) (n : Nat) (x : Bs) : x ∈ p.elAll n ↔ ∃ k, k < n ∧ x ∈ p.elTo ((k / 4 : Nat) : Int) ((k % 4 : Nat) : Int) 27 := by
  induction n with
  | zero => simp [Pc.elAll]
  | succ n ih =>
    rw [Pc.elAll, List.mem_append, ih]
    constructor
    · rintro (⟨k, hk, h⟩ | h)
      · exact ⟨k, by omega, h⟩
      · exact ⟨n, by omega, h⟩
    · rintro ⟨k, hk, h⟩
      by_cases e : k = n
      · subst e; exact .inr h
      · exact .inl ⟨k, by omega, h⟩

theorem srt_elAll (p : Pc) (n : Nat) (hn : n ≤ 12) : Srt (p.elAll n) := by
  induction n with
  | zero => exact List.Pairwise.nil
  | succ n ih =>
    rw [Pc.elAll]
    refine srt_app (ih (by omega)) (srt_elTo _ _ _ _ (by omega)) ?_
    intro x hx y hy
    obtain ⟨k, hk, hx⟩ := (mem_elAll p n x).1 hx
    obtain ⟨m, hm, hi, rfl⟩ := (mem_elTo _ _ _ _ _).1 hx
    obtain ⟨m', hm', hi', rfl⟩ := (mem_elTo _ _ _ _ _).1 hy
    obtain ⟨_, c1, i1⟩ := isOf_eq hi
    obtain ⟨_, c2, i2⟩ := isOf_eq hi'
    unfold Sl.text
    rw [c1, i1, c2, i2]
    simp only [List.cons_append, List.nil_append, Int.toNat_natCast]
    rw [List.cons_lt_cons_iff]
    by_cases e : k / 4 = n / 4
    · right
      refine ⟨by rw [e], ?_⟩
      rw [List.cons_lt_cons_iff]
      left; exact itemB_lt (by omega) (by omega)
    · left; exact cartB_lt (by omega) (by omega)

/-- The lists of a piece. -/
theorem rel_lists (p : Pc) (hp : p.ok) : RelP p (p.dlTo 27) (p.elAll 12) := by
  refine ⟨srt_dlTo p 27 (by omega), ?_, srt_elAll p 12 (by omega), ?_⟩
  · intro x
    rw [mem_dlTo]
    constructor
    · rintro ⟨m, hm, hk, rfl⟩; exact ⟨m / 9, m % 9, by omega, by omega, hk, rfl⟩
    · rintro ⟨r, i, hr, hi, hk, rfl⟩
      refine ⟨r * 9 + i, by omega, by rw [Pc.nth_ri _ _ _ hi]; exact hk, ?_⟩
      have e1 : (r * 9 + i) / 9 = r := by omega
      have e2 : (r * 9 + i) % 9 = i := by omega
      rw [e1, e2]
  · intro x
    rw [mem_elAll]
    constructor
    · rintro ⟨k, hk, h⟩
      obtain ⟨m, hm, hi, rfl⟩ := (mem_elTo _ _ _ _ _).1 h
      exact ⟨m / 9, m % 9, by omega, by omega, (isOf_eq hi).1, rfl⟩
    · rintro ⟨r, i, hr, hi, hf, rfl⟩
      obtain ⟨a, b, c, d, _, _⟩ := hp.good hr hi hf
      obtain ⟨cn, hcn⟩ : ∃ cn : Nat, (p r i).cart = (cn : Int) := ⟨(p r i).cart.toNat, by omega⟩
      obtain ⟨tn, htn⟩ : ∃ tn : Nat, (p r i).item = (tn : Int) := ⟨(p r i).item.toNat, by omega⟩
      refine ⟨cn * 4 + tn, by omega, (mem_elTo _ _ _ _ _).2 ⟨r * 9 + i, by omega, ?_, ?_⟩⟩
      · rw [Pc.nth_ri _ _ _ hi]
        have e1 : (cn * 4 + tn) / 4 = cn := by omega
        have e2 : (cn * 4 + tn) % 4 = tn := by omega
        rw [e1, e2]
        simp [Sl.isOf, hf, hcn, htn]
      · rw [Pc.nth_ri _ _ _ hi]
        have e1 : (r * 9 + i) / 9 = r := by omega
        have e2 : (r * 9 + i) % 9 = i := by omega
        rw [e1, e2]

theorem RelP.eqD {p : Pc} {D E : List Bs} (h : RelP p D E) (hp : p.ok) : D = p.dlTo 27 := (h.uniq (rel_lists p hp)).1
theorem RelP.eqE {p : Pc} {D E : List Bs} (h : RelP p D E) (hp : p.ok) : E = p.elAll 12 := (h.uniq (rel_lists p hp)).2

/-- How many dots of a replica. -/
def knownL (D : List Bs) (r : Int) : Nat := D.countP (fun d => decide (((d.getD 0 0).toNat : Int) - 48 = r))

theorem known_row (p : Pc) (k : Nat) (r : Int) (hk : k < 3) (n : Nat) (hn : n ≤ 9) : knownL (p.rowTo k n) r = if r = k then cnt (fun i => (p k i).known) n else 0 := by
  induction n with
  | zero => simp [knownL, Pc.rowTo, cnt]
  | succ n ih =>
    have h1 : knownL (p.rowTo k (n + 1)) r = knownL (p.rowTo k n) r + knownL (if (p k n).known then [dotT k n] else []) r := by
      simp [knownL, Pc.rowTo, List.countP_append]
    rw [h1, ih (by omega)]
    have h2 : knownL [dotT k n] r = if r = k then 1 else 0 := by
      have : ((dig k).toNat : Int) - 48 = k := by rw [dig_toNat k (by omega)]; omega
      simp only [knownL, dotT, List.countP_cons, List.countP_nil, List.getD_cons_zero, this]
      by_cases e : r = k
      · simp [e]
      · have e' : ¬ ((k : Int) = r) := fun h => e h.symm
        simp [e, e']
    simp only [cnt]
    by_cases hkn : (p k n).known = true
    · simp only [hkn, if_true, h2]
      split <;> simp
    · simp only [hkn, if_false, Bool.false_eq_true]
      split <;> simp [knownL]

theorem RelP.known {p : Pc} {D E : List Bs} (h : RelP p D E) (hp : p.ok) (r : Int) : knownL D r = p.count r := by
  rw [h.eqD hp]
  have e : p.dlTo 27 = p.rowTo 0 9 ++ p.rowTo 1 9 ++ p.rowTo 2 9 := by
    have h2 := dlTo_row p 2 9 (by omega)
    have h1 := dlTo_row p 1 9 (by omega)
    have h0 := dlTo_row p 0 9 (by omega)
    simp only [Nat.reduceMul, Nat.reduceAdd] at h2 h1 h0
    rw [h2, h1, h0]; simp [Pc.dlTo]
  rw [e]
  have hadd : ∀ a b, knownL (a ++ b) r = knownL a r + knownL b r := fun a b => by simp [knownL, List.countP_append]
  rw [hadd, hadd, known_row p 0 r (by omega) 9 (by omega), known_row p 1 r (by omega) 9 (by omega), known_row p 2 r (by omega) 9 (by omega)]
  unfold Pc.count
  by_cases hr : 0 ≤ r ∧ r < 3
  · rw [if_pos hr]
    have : r = 0 ∨ r = 1 ∨ r = 2 := by omega
    rcases this with rfl | rfl | rfl <;> simp
  · rw [if_neg hr]
    have a0 : ¬ (r = ((0 : Nat) : Int)) := by omega
    have a1 : ¬ (r = ((1 : Nat) : Int)) := by omega
    have a2 : ¬ (r = ((2 : Nat) : Int)) := by omega
    rw [if_neg a0, if_neg a1, if_neg a2]

end Go.Proofs.YtalaldfgjgpacaaGreatDoor
