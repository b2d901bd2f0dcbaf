import Derived.Test.YtkeanpabacfdlaaGreatDoorShelf
import Derived.Test.YtkeanpabacfdlaaGreatDoorR
import Derived.Laws.BytesString
namespace Go.Proofs.YtkeanpabacfdlaaGreatDoor
set_option linter.unusedVariables false
set_option linter.unusedSimpArgs false
open Go.RowKit

theorem dd_len : ∀ (k u : Nat), u < 10 ^ (k + 1) → (Lib.decDigits u).length ≤ k + 1 := by
  intro k
  induction k with
  | zero => intro u hu; rw [Lib.decDigits, dif_pos (by simpa using hu)]; simp
  | succ k ih =>
    intro u hu
    rw [Lib.decDigits]
    split
    · simp
    · have : u / 10 < 10 ^ (k + 1) := by
        rw [Nat.div_lt_iff_lt_mul (by decide)]
        rw [Nat.pow_succ] at hu; exact hu
      have := ih _ this
      simp; omega

theorem itoa_len (z : Int) (h0 : -9999 ≤ z) (h1 : z ≤ 9999) : (Lib.itoa z).length ≤ 5 := by
  unfold Lib.itoa
  split
  · have := dd_len 3 z.natAbs (by omega); simp; omega
  · have := dd_len 3 z.toNat (by omega); omega

theorem blw_grow (w : World) (k : Nat) (os : Array Obj) : Blw w (Sort.grow (w.drewN k) os) := by
  refine ⟨rfl, rfl, rfl, ?_, ?_⟩
  · simp [Sort.grow]
  · intro i hi
    show (w.heap ++ os)[i]? = _
    rw [Array.getElem?_append_left hi]

theorem Tab.lt {P : Program} {w : World} (h : Tab P w) (g : Nat) (hg : P.globalNamed "internal/strconv.uint64pow10" = some g) : g < w.heap.size := by
  unfold Tab Lib.TabIs World.var? at h
  rw [hg] at h
  simp only [Option.bind_some] at h
  rcases Nat.lt_or_ge g w.heap.size with hb | hb
  · exact hb
  · rw [Array.getElem?_eq_none hb] at h; simp at h

theorem Tab.blw {P : Program} {w w' : World} (h : Tab P w) (hb : Blw w w') : Tab P w' := h.on fun g hg => hb.bk g (h.lt g hg)

theorem itoa_any (z : Int) (w : World) (h0 : -9999 ≤ z) (h1 : z ≤ 9999) (ht : Tab Tryz.prog w) :
    Calls Tryz.prog 116 #[.int .i64 z] w fun e w' => e = .returned (.string ⟨(Lib.itoa z).toArray⟩) ∧ Blw w w' :=
  (Tryz.strconv_Itoa z (by omega) (by omega) w ht).mono fun _ _ h => ⟨h.1, by obtain ⟨k, os, hk⟩ := h.2; rw [hk]; exact blw_grow _ _ _⟩


theorem itoa_digit (d : Nat) (hd : d < 10) (w : World) : Calls Tryz.prog 116 #[.int .i64 d] w fun e w' => e = .returned (.string ⟨#[dig (d)]⟩) ∧ w' = w := by
  have h := Tryz.strconv_Itoa_small d (by omega) w
  rw [Lib.decDigits, dif_pos hd] at h
  exact h

theorem itoa_small (d : Nat) (hd : d < 100) (w : World) : Calls Tryz.prog 116 #[.int .i64 d] w fun e w' => e = .returned (.string ⟨(if d < 10 then [dig (d)] else [dig (d / 10), dig (d % 10)]).toArray⟩) ∧ w' = w := by
  have h := Tryz.strconv_Itoa_small d hd w
  rw [Lib.decDigits] at h
  split at h
  · rw [if_pos ‹_›]; exact h
  · rw [if_neg ‹_›]
    rw [Lib.decDigits, dif_pos (by omega)] at h
    exact h

def lenV : Value → Nat
  | .string s => s.size
  | _ => 0

def zer (k : Nat) (l : List UInt8) : List UInt8 := List.replicate k 48 ++ l
theorem zer_len (k : Nat) (l : List UInt8) : (zer k l).length = k + l.length := by simp [zer]
theorem zer_succ (k : Nat) (l : List UInt8) : zer (k + 1) l = [48] ++ zer k l := by simp [zer, List.replicate_succ]
theorem bytes_app' (x y : List UInt8) : (ByteArray.mk x.toArray ++ ByteArray.mk y.toArray) = ByteArray.mk (x ++ y).toArray := ByteArray.mk_append_mk x y
theorem ba_size (l : List UInt8) : (ByteArray.mk l.toArray).size = l.length := by simp [ByteArray.size]

set_option maxHeartbeats 400000 in
theorem fill_any (l : List UInt8) (wd : Nat) (w : World) (hl : l.length ≤ wd) (hw : wd ≤ 9) :
    Calls Tryz.prog 131 #[.string ⟨l.toArray⟩, .int .i64 wd] w fun e w' => e = .returned (.string ⟨(zer (wd - l.length) l).toArray⟩) ∧ w' = w := by
  go_enter Tryz.func131, Tryz.ntmps131
  go_wp2
  go_loop [0] (fun s => ∃ k : Nat, k + l.length ≤ wd ∧ s = .string ⟨(zer k l).toArray⟩) (fun s => wd - lenV s)
  case atStart => exact ⟨0, by omega, by simp [zer]⟩
  case round =>
    obtain ⟨k, hk, rfl⟩ := hrel
    have hz := zer_len k l
    have HS := hid (zer_succ k l)
    by_cases hlt : k + l.length < wd
    · generalize zer k l = z at *
      go_wp2
      go_round
      case rel => exact ⟨k + 1, by omega, by rw [HS.out, ← bytes_app']⟩
      case measure => simp [lenV, ba_size]; omega
    · have hkn : k = wd - l.length := by omega
      have HK : Hid (zer (wd - l.length) l = zer k l) := by rw [hkn]; exact rfl
      clear hkn HS
      generalize zer k l = z at *
      go_wp2
      go_ret
      exact ⟨by rw [HK.out]; rfl, rfl⟩

set_option maxHeartbeats 400000 in
theorem two_any (d : Nat) (w : World) (hd : d < 100) :
    Calls Tryz.prog 118 #[.int .i64 d] w fun e w' => e = .returned (.string ⟨#[dig (d / 10), dig (d % 10)]⟩) ∧ w' = w := by
  have HF := hid (fun l hl wx => fill_any l 2 wx hl (by omega))
  obtain ⟨l, hl⟩ : ∃ l, l = (if d < 10 then [dig (d)] else [dig (d / 10), dig (d % 10)]) := ⟨_, rfl⟩
  have HL : Hid (zer (2 - l.length) l = [dig (d / 10), dig (d % 10)]) := by
    show zer (2 - l.length) l = [dig (d / 10), dig (d % 10)]
    rw [hl]
    split
    · rename_i h; rw [Nat.div_eq_of_lt h, Nat.mod_eq_of_lt h]; rfl
    · rfl
  have hll : l.length ≤ 2 := by rw [hl]; split <;> simp
  have HI := hid (itoa_small d hd w)
  rw [← hl] at HI
  clear hl
  go_enter Tryz.func118, Tryz.ntmps118
  go_wp2_with fail
  refine HI.out.mono ?_
  rintro e w1 ⟨rfl, rfl⟩
  go_wp2_with fail
  refine (HF.out l hll _).mono ?_
  rintro e w2 ⟨rfl, rfl⟩
  go_wp2
  go_ret
  exact ⟨by rw [HL.out]; rfl, rfl⟩

theorem itoa_three (d : Nat) (hd : d < 1000) : zer (3 - (Lib.itoa (d : Int)).length) (Lib.itoa (d : Int)) = [dig (d / 100), dig (d / 10 % 10), dig (d % 10)] ∧ (Lib.itoa (d : Int)).length ≤ 3 := by
  have e : Lib.itoa (d : Int) = Lib.decDigits d := by
    unfold Lib.itoa; rw [if_neg (by omega)]; rfl
  rw [e, Lib.decDigits]
  split
  · rename_i h
    have h1 : d / 100 = 0 := by omega
    have h2 : d / 10 % 10 = 0 := by omega
    have h3 : d % 10 = d := by omega
    rw [h1, h2, h3]; exact ⟨rfl, by simp⟩
  · rw [Lib.decDigits]
    split
    · have h1 : d / 100 = 0 := by omega
      have h2 : d / 10 % 10 = d / 10 := by omega
      rw [h1, h2]; exact ⟨rfl, by simp⟩
    · rw [Lib.decDigits, dif_pos (by omega)]
      have h1 : d / 10 / 10 = d / 100 := by omega
      rw [h1]; exact ⟨rfl, by simp⟩

set_option maxHeartbeats 400000 in
theorem three_any (d : Nat) (w : World) (hd : d < 1000) (ht : Tab Tryz.prog w) :
    Calls Tryz.prog 133 #[.int .i64 d] w fun e w' => e = .returned (.string ⟨#[dig (d / 100), dig (d / 10 % 10), dig (d % 10)]⟩) ∧ Blw w w' := by
  have HF := hid (fun l hl wx => fill_any l 3 wx hl (by omega))
  have HI := hid (itoa_any (d : Int) w (by omega) (by omega) ht)
  have HT := hid (itoa_three d hd)
  clear ht
  generalize Lib.itoa (d : Int) = l at *
  go_enter Tryz.func133, Tryz.ntmps133
  go_wp2_with fail
  refine HI.out.mono ?_
  rintro e w1 ⟨rfl, b1⟩
  go_wp2_with fail
  refine (HF.out l HT.out.2 _).mono ?_
  rintro e w2 ⟨rfl, rfl⟩
  go_wp2
  go_ret
  exact ⟨by rw [HT.out.1]; rfl, b1⟩

end Go.Proofs.YtkeanpabacfdlaaGreatDoor
