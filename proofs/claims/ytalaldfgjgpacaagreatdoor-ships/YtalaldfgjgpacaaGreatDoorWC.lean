import Derived.Test.YtalaldfgjgpacaaGreatDoorML
import Derived.Test.YtalaldfgjgpacaaGreatDoorRA
import Derived.Test.YtalaldfgjgpacaaGreatDoorShelf
import Derived.Test.YtalaldfgjgpacaaGreatDoorWB
import Derived.Laws.BytesString
import Derived.Deep.Cut
import Derived.BigRegion
import Derived.RegionTactic
import Derived.ChangeAlike
namespace Go.Proofs.YtalaldfgjgpacaaGreatDoor
set_option linter.unusedVariables false
set_option linter.unusedSimpArgs false
open Go.RowKit

theorem dd_len : ∀ (k u : Nat), u < 10 ^ (k + 1) → (Lib.decDigits u).length ≤ k + 1 := by
  intro k
  induction k with
  | zero => intro u hu; rw [Lib.decDigits, dif_pos (by simpa using hu)]; simp
  | succ k ih =>
    intro u hu
    rw [Lib.decDigits]
    split
    · simp
    · have : u / 10 < 10 ^ (k + 1) := by
        rw [Nat.div_lt_iff_lt_mul (by decide)]
        rw [Nat.pow_succ] at hu; exact hu
      have := ih _ this
      simp; omega

theorem itoa_len (z : Int) (h0 : -9999 ≤ z) (h1 : z ≤ 9999) : (Lib.itoa z).length ≤ 5 := by
  unfold Lib.itoa
  split
  · have := dd_len 3 z.natAbs (by omega); simp; omega
  · have := dd_len 3 z.toNat (by omega); omega

theorem blw_grow (w : World) (k : Nat) (os : Array Obj) : Blw w (Sort.grow (w.drewN k) os) := by
  refine ⟨rfl, rfl, rfl, ?_, ?_⟩
  · simp [Sort.grow]
  · intro i hi
    show (w.heap ++ os)[i]? = _
    rw [Array.getElem?_append_left hi]

theorem Tab.lt {P : Program} {w : World} (h : Tab P w) (g : Nat) (hg : P.globalNamed "internal/strconv.uint64pow10" = some g) : g < w.heap.size := by
  unfold Tab Lib.TabIs World.var? at h
  rw [hg] at h
  simp only [Option.bind_some] at h
  rcases Nat.lt_or_ge g w.heap.size with hb | hb
  · exact hb
  · rw [Array.getElem?_eq_none hb] at h; simp at h

theorem Tab.blw {P : Program} {w w' : World} (h : Tab P w) (hb : Blw w w') : Tab P w' := h.on fun g hg => hb.bk g (h.lt g hg)

theorem itoa_any (z : Int) (w : World) (h0 : -9999 ≤ z) (h1 : z ≤ 9999) (ht : Tab Tryz.prog w) :
    Calls Tryz.prog 80 #[.int .i64 z] w fun e w' => e = .returned (.string ⟨(Lib.itoa z).toArray⟩) ∧ Blw w w' :=
  (Tryz.strconv_Itoa z (by omega) (by omega) w ht).mono fun _ _ h => ⟨h.1, by obtain ⟨k, os, hk⟩ := h.2; rw [hk]; exact blw_grow _ _ _⟩


theorem itoa_digit (d : Nat) (hd : d < 10) (w : World) : Calls Tryz.prog 80 #[.int .i64 d] w fun e w' => e = .returned (.string ⟨#[dig (d)]⟩) ∧ w' = w := by
  have h := Tryz.strconv_Itoa_small d (by omega) w
  rw [Lib.decDigits, dif_pos hd] at h
  exact h

theorem itoa_small (d : Nat) (hd : d < 100) (w : World) : Calls Tryz.prog 80 #[.int .i64 d] w fun e w' => e = .returned (.string ⟨(if d < 10 then [dig (d)] else [dig (d / 10), dig (d % 10)]).toArray⟩) ∧ w' = w := by
  have h := Tryz.strconv_Itoa_small d hd w
  rw [Lib.decDigits] at h
  split at h
  · rw [if_pos ‹_›]; exact h
  · rw [if_neg ‹_›]
    rw [Lib.decDigits, dif_pos (by omega)] at h
    exact h

def lenV : Value → Nat
  | .string s => s.size
  | _ => 0

def zer (k : Nat) (l : List UInt8) : List UInt8 := List.replicate k 48 ++ l
theorem zer_len (k : Nat) (l : List UInt8) : (zer k l).length = k + l.length := by simp [zer]
theorem zer_succ (k : Nat) (l : List UInt8) : zer (k + 1) l = [48] ++ zer k l := by simp [zer, List.replicate_succ]
theorem bytes_app' (x y : List UInt8) : (ByteArray.mk x.toArray ++ ByteArray.mk y.toArray) = ByteArray.mk (x ++ y).toArray := ByteArray.mk_append_mk x y
theorem ba_size (l : List UInt8) : (ByteArray.mk l.toArray).size = l.length := by simp [ByteArray.size]

set_option maxHeartbeats 400000 in
theorem fill_any (l : List UInt8) (wd : Nat) (w : World) (hl : l.length ≤ wd) (hw : wd ≤ 9) :
    Calls Tryz.prog 133 #[.string ⟨l.toArray⟩, .int .i64 wd] w fun e w' => e = .returned (.string ⟨(zer (wd - l.length) l).toArray⟩) ∧ w' = w := by
  go_enter Tryz.func133, Tryz.ntmps133
  go_wp2
  go_loop [0] (fun s => ∃ k : Nat, k + l.length ≤ wd ∧ s = .string ⟨(zer k l).toArray⟩) (fun s => wd - lenV s)
  case atStart => exact ⟨0, by omega, by simp [zer]⟩
  case round =>
    obtain ⟨k, hk, rfl⟩ := hrel
    have hz := zer_len k l
    have HS := hid (zer_succ k l)
    by_cases hlt : k + l.length < wd
    · generalize zer k l = z at *
      go_wp2
      go_round
      case rel => exact ⟨k + 1, by omega, by rw [HS.out, ← bytes_app']⟩
      case measure => simp [lenV, ba_size]; omega
    · have hkn : k = wd - l.length := by omega
      have HK : Hid (zer (wd - l.length) l = zer k l) := by rw [hkn]; exact rfl
      clear hkn HS
      generalize zer k l = z at *
      go_wp2
      go_ret
      exact ⟨by rw [HK.out]; rfl, rfl⟩

set_option maxHeartbeats 400000 in
theorem two_any (d : Nat) (w : World) (hd : d < 100) :
    Calls Tryz.prog 81 #[.int .i64 d] w fun e w' => e = .returned (.string ⟨#[dig (d / 10), dig (d % 10)]⟩) ∧ w' = w := by
  have HF := hid (fun l hl wx => fill_any l 2 wx hl (by omega))
  obtain ⟨l, hl⟩ : ∃ l, l = (if d < 10 then [dig (d)] else [dig (d / 10), dig (d % 10)]) := ⟨_, rfl⟩
  have HL : Hid (zer (2 - l.length) l = [dig (d / 10), dig (d % 10)]) := by
    show zer (2 - l.length) l = [dig (d / 10), dig (d % 10)]
    rw [hl]
    split
    · rename_i h; rw [Nat.div_eq_of_lt h, Nat.mod_eq_of_lt h]; rfl
    · rfl
  have hll : l.length ≤ 2 := by rw [hl]; split <;> simp
  have HI := hid (itoa_small d hd w)
  rw [← hl] at HI
  clear hl
  go_enter Tryz.func81, Tryz.ntmps81
  go_wp2_with fail
  refine HI.out.mono ?_
  rintro e w1 ⟨rfl, rfl⟩
  go_wp2_with fail
  refine (HF.out l hll _).mono ?_
  rintro e w2 ⟨rfl, rfl⟩
  go_wp2
  go_ret
  exact ⟨by rw [HL.out]; rfl, rfl⟩

theorem itoa_three (d : Nat) (hd : d < 1000) : zer (3 - (Lib.itoa (d : Int)).length) (Lib.itoa (d : Int)) = [dig (d / 100), dig (d / 10 % 10), dig (d % 10)] ∧ (Lib.itoa (d : Int)).length ≤ 3 := by
  have e : Lib.itoa (d : Int) = Lib.decDigits d := by
    unfold Lib.itoa; rw [if_neg (by omega)]; rfl
  rw [e, Lib.decDigits]
  split
  · rename_i h
    have h1 : d / 100 = 0 := by omega
    have h2 : d / 10 % 10 = 0 := by omega
    have h3 : d % 10 = d := by omega
    rw [h1, h2, h3]; exact ⟨rfl, by simp⟩
  · rw [Lib.decDigits]
    split
    · have h1 : d / 100 = 0 := by omega
      have h2 : d / 10 % 10 = d / 10 := by omega
      rw [h1, h2]; exact ⟨rfl, by simp⟩
    · rw [Lib.decDigits, dif_pos (by omega)]
      have h1 : d / 10 / 10 = d / 100 := by omega
      rw [h1]; exact ⟨rfl, by simp⟩

set_option maxHeartbeats 400000 in
theorem three_any (d : Nat) (w : World) (hd : d < 1000) (ht : Tab Tryz.prog w) :
    Calls Tryz.prog 162 #[.int .i64 d] w fun e w' => e = .returned (.string ⟨#[dig (d / 100), dig (d / 10 % 10), dig (d % 10)]⟩) ∧ Blw w w' := by
  have HF := hid (fun l hl wx => fill_any l 3 wx hl (by omega))
  have HI := hid (itoa_any (d : Int) w (by omega) (by omega) ht)
  have HT := hid (itoa_three d hd)
  clear ht
  generalize Lib.itoa (d : Int) = l at *
  go_enter Tryz.func162, Tryz.ntmps162
  go_wp2_with fail
  refine HI.out.mono ?_
  rintro e w1 ⟨rfl, b1⟩
  go_wp2_with fail
  refine (HF.out l HT.out.2 _).mono ?_
  rintro e w2 ⟨rfl, rfl⟩
  go_wp2
  go_ret
  exact ⟨by rw [HT.out.1]; rfl, b1⟩

end Go.Proofs.YtalaldfgjgpacaaGreatDoor

namespace Go.Proofs.YtalaldfgjgpacaaGreatDoor
set_option linter.unusedVariables false
set_option linter.unusedSimpArgs false
open Go.RowKit

theorem conv1 (n : Int) (w : World) : (convert 131 9 (.slice (some ⟨w.heap.size, 0, none⟩) 1 1)).run Tryz.prog (w.alloc (.cells #[.int .u8 n] 5)) = .ok (.string ⟨#[UInt8.ofNat n.toNat]⟩) (w.alloc (.cells #[.int .u8 n] 5)) := by
  rw [run_convert_bytes_string _ 131 9 5 _ _ _ Tryz.underlying131 Tryz.underlying5 Tryz.underlying9]
  rw [run_bytesToString _ _ _ _ [n]]
  · rfl
  · have := run_loadCells_list (P := Tryz.prog) (w.alloc (.cells #[.int .u8 n] 5)) ⟨w.heap.size, 0, none⟩ [.int .u8 n] (fun j v hv => by
      match j, hv with
      | 0, hv => simp at hv; subst hv; simp [Addr.add])
    simpa using this

set_option maxRecDepth 100000 in
set_option maxHeartbeats 400000 in
theorem cartLetter_any (c : Int) (w : World) (h0 : 0 ≤ c) (h3 : c < 3) :
    Calls Tryz.prog 155 #[.int .i64 c] w fun e w' => e = .returned (.string ⟨#[cartB c.toNat]⟩) ∧ Blw w w' := by
  have hcv := conv1
  have : c = 0 ∨ c = 1 ∨ c = 2 := by omega
  rcases this with rfl | rfl | rfl
  all_goals
    go_enter Tryz.func155, Tryz.ntmps155
    go_wp2
    go_ret
    exact ⟨rfl, (Blw.rfl _).al _⟩

set_option maxRecDepth 100000 in
set_option maxHeartbeats 400000 in
theorem itemLetter_any (c : Int) (w : World) (h0 : 0 ≤ c) (h3 : c < 4) :
    Calls Tryz.prog 146 #[.int .i64 c] w fun e w' => e = .returned (.string ⟨#[itemB c.toNat]⟩) ∧ Blw w w' := by
  have hcv := conv1
  have : c = 0 ∨ c = 1 ∨ c = 2 ∨ c = 3 := by omega
  rcases this with rfl | rfl | rfl | rfl
  all_goals
    go_enter Tryz.func146, Tryz.ntmps146
    go_wp2
    go_ret
    exact ⟨rfl, (Blw.rfl _).al _⟩

set_option maxHeartbeats 400000 in
theorem dotText_any (r n : Nat) (w : World) (hr : r < 10) (hn : n < 10) :
    Calls Tryz.prog 156 #[.int .i64 r, .int .i64 n] w fun e w' => e = .returned (.string ⟨#[dig (r), dig (n)]⟩) ∧ w' = w := by
  go_enter Tryz.func156, Tryz.ntmps156
  go_wp2_with fail
  refine (itoa_digit r hr _).mono ?_
  rintro e w' ⟨rfl, rfl⟩
  go_wp2_with fail
  refine (itoa_digit n hn _).mono ?_
  rintro e w' ⟨rfl, rfl⟩
  go_wp2
  go_ret
  exact ⟨ret_str (by simp only [ByteArray.mk_append_mk]; rfl), rfl⟩

set_option maxHeartbeats 400000 in
theorem valueText_any (v : Int) (w : World) (h0 : -99 ≤ v) (h1 : v ≤ 99) :
    Calls Tryz.prog 157 #[.int .i64 v] w fun e w' => e = .returned (.string ⟨(valL v).toArray⟩) ∧ w' = w := by
  obtain ⟨l, hl⟩ : ∃ l, l = valL v := ⟨_, rfl⟩
  rw [← hl]
  have HT := hid (fun d hd wx => two_any d wx hd)
  by_cases hneg : v < 0
  · obtain ⟨d, rfl⟩ : ∃ d : Nat, v = -(d : Int) := ⟨v.natAbs, by omega⟩
    have hd : d < 100 := by omega
    have hd0 : 0 < d := by omega
    have HL : Hid (l = [45, dig (d / 10), dig (d % 10)]) := by
      rw [hl, valL]; have : (-(d:Int)).natAbs = d := by omega
      rw [this, if_pos hneg]; rfl
    clear hl
    go_enter Tryz.func157, Tryz.ntmps157
    go_wp2_with fail
    refine (HT.out d hd _).mono ?_
    rintro e w' ⟨rfl, rfl⟩
    go_wp2
    go_ret
    rw [HL.out]
    exact ⟨ret_str (by simp only [ByteArray.mk_append_mk]; rfl), rfl⟩
  · obtain ⟨d, rfl⟩ : ∃ d : Nat, v = (d : Int) := ⟨v.natAbs, by omega⟩
    have hd : d < 100 := by omega
    have HL : Hid (l = [43, dig (d / 10), dig (d % 10)]) := by
      rw [hl, valL]; have : ((d:Int)).natAbs = d := by omega
      rw [this, if_neg hneg]; rfl
    clear hl
    go_enter Tryz.func157, Tryz.ntmps157
    go_wp2_with fail
    refine (HT.out d hd _).mono ?_
    rintro e w' ⟨rfl, rfl⟩
    go_wp2
    go_ret
    rw [HL.out]
    exact ⟨ret_str (by simp only [ByteArray.mk_append_mk]; rfl), rfl⟩
end Go.Proofs.YtalaldfgjgpacaaGreatDoor

namespace Go.Proofs.YtalaldfgjgpacaaGreatDoor
set_option linter.unusedVariables false
set_option linter.unusedSimpArgs false
open Go.RowKit

theorem isOf_cells (s : Sl) (c it : Int) (w : World) :
    Calls Tryz.prog 134 #[.agg #[.bool s.known, .bool s.filled, .int .i64 s.cart, .int .i64 s.item, .int .i64 s.value], .int .i64 c, .int .i64 it] w fun e w' => e = .returned (.bool (s.isOf c it)) ∧ Blw w w' :=
  (isOf_any s c it w).mono fun _ _ h => ⟨h.1, by rw [h.2]; exact (Blw.rfl _).al _⟩

/-- The rounds of Sum, of the texts: the piece lies in its block. -/
def HasPc (p : Pc) (w wr : World) : Prop := wr.heap[w.heap.size]? = some (.cells p.arr 65) ∧ w.heap.size < wr.heap.size ∧ Blw w wr

theorem HasPc.start (p : Pc) (w : World) : HasPc p w (w.alloc (.cells p.arr 65)) := ⟨hp_new _ _, by simp, (Blw.rfl _).al _⟩
theorem HasPc.on {p : Pc} {w wr w2 : World} (h : HasPc p w wr) (hb : Blw wr w2) : HasPc p w w2 := ⟨(hb.bk _ h.2.1).trans h.1, Nat.lt_of_lt_of_le h.2.1 hb.sz, h.2.2.tr hb⟩

set_option maxHeartbeats 1000000 in
theorem sum_any (p : Pc) (hp : p.ok) (c it : Int) (w : World) :
    Calls Tryz.prog 145 #[.agg p.arr, .int .i64 c, .int .i64 it] w fun e w' => e = .returned (.tuple #[.int .i64 (p.sumTo c it 27), .bool (p.anyTo c it 27)]) ∧ Blw w w' := by
  have HP := hid hp
  clear hp
  go_enter Tryz.func145, Tryz.ntmps145
  go_wp2
  go_loopw [8, 9, 10] (fun s f r wr => ∃ k : Nat, k ≤ 3 ∧ r = .int .i64 k ∧ s = .int .i64 (p.sumTo c it (k * 9)) ∧ f = .bool (p.anyTo c it (k * 9)) ∧ HasPc p w wr) (fun _ _ r _ => 3 - (intOf r).toNat)
  case atStart => exact ⟨0, by omega, rfl, rfl, rfl, HasPc.start p w⟩
  case round =>
    obtain ⟨k, hk, rfl, rfl, rfl, hJR⟩ := hrel
    by_cases hlt : k < 3
    · have hd : decide ((k : Int) < 3) = true := by simp; omega
      go_wp2
      go_loopw [8, 9, 11] (fun s f i wr => ∃ m : Nat, m ≤ 9 ∧ i = .int .i64 m ∧ s = .int .i64 (p.sumTo c it (k * 9 + m)) ∧ f = .bool (p.anyTo c it (k * 9 + m)) ∧ HasPc p w wr) (fun _ _ i _ => 9 - (intOf i).toNat)
      case atStart => exact ⟨0, by omega, rfl, rfl, rfl, hJR⟩
      case round =>
        clear hJR
        obtain ⟨m, hm, rfl, rfl, rfl, hJR⟩ := hrel
        by_cases hlm : m < 9
        · have H := hid hJR
          have hb1 := sumTo_bd p HP.out c it (k * 9 + m) (by omega)
          have hb2 := sumTo_bd p HP.out c it (k * 9 + m + 1) (by omega)
          have HS : Hid (p.sumTo c it (k * 9 + (m + 1)) = p.sumTo c it (k * 9 + m) + (if (p k m).isOf c it then (p k m).value else 0)) := by
            show p.sumTo c it (k * 9 + m + 1) = _
            rw [Pc.sumTo, Pc.nth_ri _ _ _ hlm]
          have HA : Hid (p.anyTo c it (k * 9 + (m + 1)) = (p.anyTo c it (k * 9 + m) || (p k m).isOf c it)) := by
            show p.anyTo c it (k * 9 + m + 1) = _
            rw [Pc.anyTo, Pc.nth_ri _ _ _ hlm]
          obtain ⟨p0, p1, p2, p3, p4⟩ := cells5 hJR.1 k m hlt hlm
          have hk0 : (0 : Int) ≤ (k : Int) := Int.natCast_nonneg _
          have hk3 : (k : Int) < 3 := by omega
          have hm0 : (0 : Int) ≤ (m : Int) := Int.natCast_nonneg _
          have hm9 : (m : Int) < 9 := by omega
          clear hJR
          go_wp2_with fail
          refine (isOf_cells (p k m) c it _).mono ?_
          rintro e w2 ⟨rfl, hb⟩
          have H2 := hid (H.out.on hb)
          cases hi : (p k m).isOf c it
          · clear hb
            go_wp2
            go_roundw
            case rel => exact ⟨m + 1, by omega, by go_num, by rw [HS.out, hi]; simp, by rw [HA.out, hi]; simp, H2.out⟩
            case measure => simp [intOf]; omega
          · obtain ⟨p0', p1', p2', p3', p4'⟩ := cells5 H2.out.1 k m hlt hlm
            have hv : -(99:Int) ≤ (p k m).value ∧ (p k m).value ≤ 99 := by
              have hf : (p k m).filled = true := by simp only [Sl.isOf, Bool.and_eq_true] at hi; exact hi.1
              have := HP.out k m hlt hlm hf; omega
            obtain ⟨hv0, hv1⟩ := hv
            obtain ⟨hb10, hb11⟩ := hb1
            clear hb hb2
            go_wp2
            go_roundw
            case rel => exact ⟨m + 1, by omega, by go_num, by rw [HS.out, hi]; simp, by rw [HA.out, hi]; simp, H2.out⟩
            case measure => simp [intOf]; omega
        · have hm9 : m = 9 := by omega
          subst hm9
          go_wp2
          go_roundw
          case rel => exact ⟨k + 1, by omega, by go_num, by rw [show (k + 1) * 9 = k * 9 + 9 by omega], by rw [show (k + 1) * 9 = k * 9 + 9 by omega], hJR⟩
          case measure => simp [intOf]; omega
    · have hk3 : k = 3 := by omega
      subst hk3
      go_wp2
      go_ret2
      exact ⟨rfl, hJR.2.2⟩

/-- The rounds of DotsOf. -/
def DotsRel (p : Pc) (c it : Int) (w : World) (n : Nat) (wr : World) : Prop :=
  wr.heap[w.heap.size]? = some (.cells p.arr 65) ∧ (∃ C, wr.heap[w.heap.size + 1]? = some (.cells C 65) ∧ C.size = 135) ∧ wr.heap[w.heap.size + 1 + 1]? = some (.cells (p.dotsTo c it n).arr 65) ∧ w.heap.size + 3 ≤ wr.heap.size ∧ Blw w wr

theorem DotsRel.start (p : Pc) (c it : Int) (w : World) : DotsRel p c it w 0 (((w.alloc (.cells p.arr 65)).alloc (.cells Tryz.zeroCells65 65)).alloc (.cells Tryz.zeroCells65 65)) := by
  refine ⟨?_, ⟨Tryz.zeroCells65, ?_, ?_⟩, ?_, ?_, (((Blw.rfl _).al _).al _).al _⟩
  · exact hp_old _ (by simp; omega) (hp_old _ (by simp) (hp_new _ _))
  · exact hp_old _ (by simp) (by simpa using hp_new (w.alloc (.cells p.arr 65)) _)
  · rw [zero63, Pc.size]
  · rw [dotsTo_zero, ← zero63]; simpa using hp_new ((w.alloc (.cells p.arr 65)).alloc (.cells Tryz.zeroCells65 65)) _
  · simp

theorem DotsRel.on {p : Pc} {c it : Int} {w : World} {n : Nat} {wr w2 : World} (h : DotsRel p c it w n wr) (hb : Blw wr w2) : DotsRel p c it w n w2 := by
  obtain ⟨hP, ⟨C, hC, hC'⟩, hJ, hsz, hw⟩ := h
  exact ⟨(hb.bk _ (by omega)).trans hP, ⟨C, (hb.bk _ (by omega)).trans hC, hC'⟩, (hb.bk _ (by omega)).trans hJ, by have := hb.sz; omega, hw.tr hb⟩

theorem DotsRel.no {p : Pc} {c it : Int} {w : World} {k m : Nat} {wr : World} (h : DotsRel p c it w (k * 9 + m) wr) (hm : m < 9) (hi : (p k m).isOf c it = false) : DotsRel p c it w (k * 9 + (m + 1)) wr := by
  obtain ⟨hP, hC, hJ, hsz, hw⟩ := h
  exact ⟨hP, hC, by rw [← dotsTo_not p c it k m hi hm]; exact hJ, hsz, hw⟩

theorem DotsRel.yes {p : Pc} {c it : Int} {w : World} {k m : Nat} {wr : World} (h : DotsRel p c it w (k * 9 + m) wr) (hk : k < 3) (hm : m < 9) (hi : (p k m).isOf c it = true) : DotsRel p c it w (k * 9 + (m + 1)) (wr.setCell ⟨w.heap.size + 1 + 1, k * 45 + m * 5, none⟩ (.bool true)) := by
  obtain ⟨hP, ⟨C, hC, hC'⟩, hJ, hsz, hw⟩ := h
  refine ⟨?_, ⟨C, ?_, hC'⟩, ?_, by simpa using hsz, hw.sc _ _ _ (by omega)⟩
  · rw [Below.heap_setCell _ _ _ _ (by simp; omega)]; exact hP
  · rw [Below.heap_setCell _ _ _ _ (by simp)]; exact hC
  · rw [heap_setCell_self hJ, dotsTo_yes p c it k m hi hm hk]

set_option maxHeartbeats 1000000 in
theorem dotsOf_any (p : Pc) (c it : Int) (w : World) :
    Calls Tryz.prog 94 #[.agg p.arr, .int .i64 c, .int .i64 it] w fun e w' => e = .returned (.agg (p.dotsOf c it).arr) ∧ Blw w w' := by
  go_enter Tryz.func94, Tryz.ntmps94
  go_wp2
  go_loopw [8] (fun r wr => ∃ k : Nat, k ≤ 3 ∧ r = .int .i64 k ∧ DotsRel p c it w (k * 9) wr) (fun r _ => 3 - (intOf r).toNat)
  case atStart => exact ⟨0, by omega, rfl, DotsRel.start p c it w⟩
  case round =>
    obtain ⟨k, hk, rfl, hJR⟩ := hrel
    by_cases hlt : k < 3
    · have hd : decide ((k : Int) < 3) = true := by simp; omega
      go_wp2
      go_loopw [9] (fun i wr => ∃ m : Nat, m ≤ 9 ∧ i = .int .i64 m ∧ DotsRel p c it w (k * 9 + m) wr) (fun i _ => 9 - (intOf i).toNat)
      case atStart => exact ⟨0, by omega, rfl, hJR⟩
      case round =>
        clear hJR
        obtain ⟨m, hm, rfl, hJR⟩ := hrel
        by_cases hlm : m < 9
        · have H := hid hJR
          obtain ⟨p0, p1, p2, p3, p4⟩ := cells5 hJR.1 k m hlt hlm
          have hk0 : (0 : Int) ≤ (k : Int) := Int.natCast_nonneg _
          have hk3 : (k : Int) < 3 := by omega
          have hm0 : (0 : Int) ≤ (m : Int) := Int.natCast_nonneg _
          have hm9 : (m : Int) < 9 := by omega
          clear hJR
          go_wp2_with fail
          refine (isOf_cells (p k m) c it _).mono ?_
          rintro e w2 ⟨rfl, hb⟩
          have H2 := hid (H.out.on hb)
          cases hi : (p k m).isOf c it
          · clear hb
            go_wp2
            go_roundw
            case rel => exact ⟨m + 1, by omega, by go_num, H2.out.no hlm hi⟩
            case measure => simp [intOf]; omega
          · obtain ⟨q0, -, -, -, -⟩ := cells5 H2.out.2.2.1 k m hlt hlm
            have jf := blk_frozen H2.out.2.2.1 (k * 45 + m * 5)
            clear hb
            go_wp2
            go_roundw
            case rel => exact ⟨m + 1, by omega, by go_num, H2.out.yes hlt hlm hi⟩
            case measure => simp [intOf]; omega
        · have hm9 : m = 9 := by omega
          subst hm9
          go_wp2
          go_roundw
          case rel => exact ⟨k + 1, by omega, by go_num, by rw [show (k + 1) * 9 = k * 9 + 9 by omega]; exact hJR⟩
          case measure => simp [intOf]; omega
    · have hk3 : k = 3 := by omega
      subst hk3
      obtain ⟨hP, ⟨C, hC, hC'⟩, hJ, hsz, hb⟩ := hJR
      rw [show 3 * 9 = 27 from rfl, dotsTo_all] at hJ
      have HI := hid (show (Tryz.prog.info? 65).map (·.size) = some (p.dotsOf c it).arr.size by rw [size63, Pc.size])
      have HI' := hid (show (Tryz.prog.info? 65).map (·.size) = some (p.dotsOf c it).cells.length by rw [size63, Pc.len])
      go_wp2_with (first | (refine wpList_load_row (by rfl) 65 _ (by rfl) (w.heap.size + 1 + 1) (by rfl) 65 _ (0, 0) _ hJ Tryz.underlying65 rfl HI.out ?_) | (refine wpList_store_blk (by rfl) 65 _ _ (by rfl) (w.heap.size + 1) 0 (p.dotsOf c it).cells (by rfl) (by rfl) C 65 hC (by rw [Pc.len]; omega) HI'.out (Pc.one _) ?_))
      have hfin : (wr.setCells (w.heap.size + 1) 0 (p.dotsOf c it).cells).heap[w.heap.size + 1]? = some (.cells (p.dotsOf c it).arr 65) := by
        rw [heap_setCells_self _ hC, splice_all _ _ (by rw [Pc.len]; omega)]; rfl
      exact bodyPost_ret (results_cell_row rfl _ _ (w.heap.size + 1) 65 (p.dotsOf c it).arr (0, 0) _ (by rfl) hfin Tryz.underlying65 rfl HI.out) rfl ⟨rfl, hb.scs _ _ _ (by omega)⟩
end Go.Proofs.YtalaldfgjgpacaaGreatDoor

namespace Go.Proofs.YtalaldfgjgpacaaGreatDoor
set_option linter.unusedVariables false
set_option linter.unusedSimpArgs false
open Go.RowKit

theorem bytes_app (x y : List UInt8) : (ByteArray.mk x.toArray ++ ByteArray.mk y.toArray) = ByteArray.mk (x ++ y).toArray := ByteArray.mk_append_mk x y

set_option maxHeartbeats 1000000 in
theorem entryText_any (s : Sl) (r n : Nat) (w : World) (hr : r < 10) (hn : n < 10) (hc0 : 0 ≤ s.cart) (hc1 : s.cart < 3) (hi0 : 0 ≤ s.item) (hi1 : s.item < 4) (hv0 : -99 ≤ s.value) (hv1 : s.value ≤ 99) :
    Calls Tryz.prog 135 #[.int .i64 r, .int .i64 n, .agg #[.int .i64 s.cart, .int .i64 s.item, .int .i64 s.value]] w fun e w' => e = .returned (.string ⟨(s.text r n).toArray⟩) ∧ Blw w w' := by
  obtain ⟨l, hl⟩ : ∃ l, l = s.text r n := ⟨_, rfl⟩
  rw [← hl]
  have HL : Hid (l = [cartB s.cart.toNat, itemB s.item.toNat, dig r, dig n] ++ valL s.value) := hl
  clear hl
  obtain ⟨kk, ff, c, it, v⟩ := s
  simp only [] at *
  have vl : (valL v).length = 3 := rfl
  go_enter Tryz.func135, Tryz.ntmps135
  go_wp2_with fail
  refine (cartLetter_any c _ hc0 hc1).mono ?_
  rintro e w1 ⟨rfl, b1⟩
  obtain ⟨c1, f1⟩ := bcell b1
  go_wp2_with fail
  refine (itemLetter_any it _ hi0 hi1).mono ?_
  rintro e w2 ⟨rfl, b2⟩
  have b3 := b1.tr b2
  obtain ⟨c2, f2⟩ := bcell b3
  clear b2 c1 f1
  go_wp2_with fail
  refine (dotText_any r n _ hr hn).mono ?_
  rintro e w3 ⟨rfl, rfl⟩
  go_wp2_with fail
  refine (valueText_any v _ hv0 hv1).mono ?_
  rintro e w4 ⟨rfl, rfl⟩
  go_wp2
  go_ret
  refine ⟨ret_str ?_, ((Blw.rfl _).al _).tr b3⟩
  rw [HL.out]
  simp only [bytes_app]
  rfl

theorem textTo_succ (p : Pc) (c it : Int) (k m : Nat) (hm : m < 9) : p.textTo c it (k * 9 + (m + 1)) = p.textTo c it (k * 9 + m) ++ (if (p k m).isOf c it then (p k m).text k (m + 1) else []) := by
  show p.textTo c it (k * 9 + m + 1) = _
  rw [Pc.textTo, Pc.nth_ri _ _ _ hm]
  have e1 : (k * 9 + m) / 9 = k := by omega
  have e2 : (k * 9 + m) % 9 = m := by omega
  rw [e1, e2]

set_option maxHeartbeats 1000000 in
theorem itemText_any (p : Pc) (hp : p.ok) (c it : Int) (w : World) :
    Calls Tryz.prog 83 #[.agg p.arr, .int .i64 c, .int .i64 it] w fun e w' => e = .returned (.string ⟨(p.textTo c it 27).toArray⟩) ∧ Blw w w' := by
  have HP := hid hp
  clear hp
  go_enter Tryz.func83, Tryz.ntmps83
  go_wp2
  go_loopw [7, 8] (fun s r wr => ∃ k : Nat, k ≤ 3 ∧ r = .int .i64 k ∧ s = .string ⟨(p.textTo c it (k * 9)).toArray⟩ ∧ HasPc p w wr) (fun _ r _ => 3 - (intOf r).toNat)
  case atStart => exact ⟨0, by omega, rfl, rfl, HasPc.start p w⟩
  case round =>
    obtain ⟨k, hk, rfl, rfl, hJR⟩ := hrel
    by_cases hlt : k < 3
    · have hd : decide ((k : Int) < 3) = true := by simp; omega
      go_wp2
      go_loopw [7, 9] (fun s i wr => ∃ m : Nat, m ≤ 9 ∧ i = .int .i64 m ∧ s = .string ⟨(p.textTo c it (k * 9 + m)).toArray⟩ ∧ HasPc p w wr) (fun _ i _ => 9 - (intOf i).toNat)
      case atStart => exact ⟨0, by omega, rfl, rfl, hJR⟩
      case round =>
        clear hJR
        obtain ⟨m, hm, rfl, rfl, hJR⟩ := hrel
        by_cases hlm : m < 9
        · have H := hid hJR
          have hln := textTo_len p c it (k * 9 + m)
          have HS := hid (textTo_succ p c it k m hlm)
          generalize p.textTo c it (k * 9 + m) = tx at *
          obtain ⟨p0, p1, p2, p3, p4⟩ := cells5 hJR.1 k m hlt hlm
          have hk0 : (0 : Int) ≤ (k : Int) := Int.natCast_nonneg _
          have hk3 : (k : Int) < 3 := by omega
          have hm0 : (0 : Int) ≤ (m : Int) := Int.natCast_nonneg _
          have hm9 : (m : Int) < 9 := by omega
          clear hJR
          go_wp2_with fail
          refine (isOf_cells (p k m) c it _).mono ?_
          rintro e w2 ⟨rfl, hb⟩
          have H2 := hid (H.out.on hb)
          cases hi : (p k m).isOf c it
          · clear hb
            go_wp2
            go_roundw
            case rel => exact ⟨m + 1, by omega, by go_num, by rw [HS.out, hi]; simp, H2.out⟩
            case measure => simp [intOf]; omega
          · obtain ⟨p0', p1', p2', p3', p4'⟩ := cells5 H2.out.1 k m hlt hlm
            have hv : (p k m).known = true ∧ 0 ≤ (p k m).cart ∧ (p k m).cart < 3 ∧ 0 ≤ (p k m).item ∧ (p k m).item < 4 ∧ -99 ≤ (p k m).value ∧ (p k m).value ≤ 99 := by
              have hf : (p k m).filled = true := by simp only [Sl.isOf, Bool.and_eq_true] at hi; exact hi.1
              exact HP.out k m hlt hlm hf
            have HV := hid hv
            clear hb hv
            go_wp2_with fail
            refine (entryText_any (p k m) k (m + 1) _ (by omega) (by omega) HV.out.2.1 HV.out.2.2.1 HV.out.2.2.2.1 HV.out.2.2.2.2.1 HV.out.2.2.2.2.2.1 HV.out.2.2.2.2.2.2).mono ?_
            rintro e w3 ⟨rfl, hb⟩
            have H3 := hid (H2.out.on hb)
            have tl : ((p k m).text k (m + 1)).length = 7 := rfl
            clear hb
            go_wp2
            go_roundw
            case rel => exact ⟨m + 1, by omega, by go_num, by rw [HS.out, hi, bytes_app]; rfl, H3.out⟩
            case measure => simp [intOf]; omega
        · have hm9 : m = 9 := by omega
          subst hm9
          go_wp2
          go_roundw
          case rel => exact ⟨k + 1, by omega, by go_num, by rw [show (k + 1) * 9 = k * 9 + 9 by omega], hJR⟩
          case measure => simp [intOf]; omega
    · have hk3 : k = 3 := by omega
      subst hk3
      go_wp2
      go_ret
      exact ⟨rfl, hJR.2.2⟩
end Go.Proofs.YtalaldfgjgpacaaGreatDoor

namespace Go.Proofs.YtalaldfgjgpacaaGreatDoor
set_option linter.unusedVariables false
set_option linter.unusedSimpArgs false
open Go.RowKit
attribute [local go_sem ↓] Go.wp_at_zero Go.wp_at_succ

def Pc.entTo (p : Pc) : Nat → List UInt8
  | 0 => []
  | n + 1 => p.entTo n ++ p.textTo ((n / 4 : Nat) : Int) ((n % 4 : Nat) : Int) 27

theorem entTo_len (p : Pc) (n : Nat) : (p.entTo n).length ≤ 189 * n := by
  induction n with
  | zero => simp [Pc.entTo]
  | succ n ih => simp only [Pc.entTo, List.length_append]; have := textTo_len p ((n / 4 : Nat) : Int) ((n % 4 : Nat) : Int) 27; omega

theorem entTo_succ (p : Pc) (k m : Nat) (hm : m < 4) : p.entTo (k * 4 + (m + 1)) = p.entTo (k * 4 + m) ++ p.textTo (k : Int) (m : Int) 27 := by
  show p.entTo (k * 4 + m + 1) = _
  rw [Pc.entTo]
  have e1 : (k * 4 + m) / 4 = k := by omega
  have e2 : (k * 4 + m) % 4 = m := by omega
  rw [e1, e2]

set_option maxRecDepth 100000 in
set_option maxHeartbeats 1000000 in
theorem entriesText_any (p : Pc) (hp : p.ok) (w : World) :
    Calls Tryz.prog 36 #[.agg p.arr] w fun e w' => e = .returned (.string ⟨(p.entTo 12).toArray⟩) ∧ Blw w w' := by
  have HP := hid hp
  have HI := hid (show (Tryz.prog.info? 65).map (·.size) = some p.arr.size by rw [size63, Pc.size])
  clear hp
  go_enter Tryz.func36, Tryz.ntmps36
  go_wp2
  go_loopw [3, 4] (fun s r wr => ∃ k : Nat, k ≤ 3 ∧ r = .int .i64 k ∧ s = .string ⟨(p.entTo (k * 4)).toArray⟩ ∧ HasPc p w wr) (fun _ r _ => 3 - (intOf r).toNat)
  case atStart => exact ⟨0, by omega, rfl, rfl, HasPc.start p w⟩
  case round =>
    obtain ⟨k, hk, rfl, rfl, hJR⟩ := hrel
    by_cases hlt : k < 3
    · have hd : decide ((k : Int) < 3) = true := by simp; omega
      go_wp2
      go_loopw [3, 5] (fun s i wr => ∃ m : Nat, m ≤ 4 ∧ i = .int .i64 m ∧ s = .string ⟨(p.entTo (k * 4 + m)).toArray⟩ ∧ HasPc p w wr) (fun _ i _ => 4 - (intOf i).toNat)
      case atStart => exact ⟨0, by omega, rfl, rfl, hJR⟩
      case round =>
        clear hJR
        obtain ⟨m, hm, rfl, rfl, hJR⟩ := hrel
        by_cases hlm : m < 4
        · have H := hid hJR
          have hln := entTo_len p (k * 4 + m)
          have HS := hid (entTo_succ p k m hlm)
          generalize p.entTo (k * 4 + m) = tx at *
          have hg := hJR.1
          clear hJR
          go_wp2_with (first | (refine wpList_load_row (by rfl) 65 (.tmp 1) (by rfl) w.heap.size (by rfl) 65 p.arr (0, 0) _ hg Tryz.underlying65 rfl HI.out ?_))
          refine (itemText_any p HP.out k m _).mono ?_
          rintro e w2 ⟨rfl, hb⟩
          have H2 := hid (H.out.on hb)
          have tl := textTo_len p (k : Int) (m : Int) 27
          clear hb hg
          go_wp2
          go_roundw
          case rel => exact ⟨m + 1, by omega, by go_num, by rw [HS.out, bytes_app], H2.out⟩
          case measure => simp [intOf]; omega
        · have hm9 : m = 4 := by omega
          subst hm9
          go_wp2
          go_roundw
          case rel => exact ⟨k + 1, by omega, by go_num, by rw [show (k + 1) * 4 = k * 4 + 4 by omega], hJR⟩
          case measure => simp [intOf]; omega
    · have hk3 : k = 3 := by omega
      subst hk3
      go_wp2
      go_ret
      exact ⟨rfl, hJR.2.2⟩

set_option maxHeartbeats 400000 in
theorem isDot_yes (r n : Nat) (w : World) (hr : r < 3) (hn0 : 1 ≤ n) (hn : n ≤ 9) :
    Calls Tryz.prog 160 #[.int .i64 r, .int .i64 n] w fun e w' => e = .returned (.bool true) ∧ w' = w := by
  have h1 : decide ((0 : Int) ≤ (r : Int)) = true := by simp
  have h2 : decide ((r : Int) < 3) = true := by simp; omega
  have h3 : decide ((1 : Int) ≤ (n : Int)) = true := by simp; omega
  have h4 : decide ((n : Int) ≤ 9) = true := by simp; omega
  go_enter Tryz.func160, Tryz.ntmps160
  go_wp2
  go_ret
  exact ⟨rfl, rfl⟩

set_option maxHeartbeats 400000 in
theorem isEntry_yes (c it v : Int) (w : World) (hc0 : 0 ≤ c) (hc1 : c < 3) (hi0 : 0 ≤ it) (hi1 : it < 4) (hv0 : -99 ≤ v) (hv1 : v ≤ 99) :
    Calls Tryz.prog 161 #[.agg #[.int .i64 c, .int .i64 it, .int .i64 v]] w fun e w' => e = .returned (.bool true) ∧ Blw w w' := by
  have g1 : decide (c < 0) = false := by simp; omega
  have g2 : decide (3 ≤ c) = false := by simp; omega
  have g3 : decide (it < 0) = false := by simp; omega
  have g4 : decide (4 ≤ it) = false := by simp; omega
  have g5 : decide (-99 ≤ v) = true := by simp; omega
  have g6 : decide (v ≤ 99) = true := by simp; omega
  go_enter Tryz.func161, Tryz.ntmps161
  go_wp2
  go_ret
  exact ⟨rfl, (Blw.rfl _).al _⟩


/-- What a whole store over a new row leaves. -/
theorem hp_store {w : World} {b : Nat} {C : Array Value} {t : TypeId} (q : Pc) (h : w.heap[b]? = some (.cells C t)) (hC : C.size = 135) : (w.setCells b 0 q.cells).heap[b]? = some (.cells q.arr t) := by
  rw [heap_setCells_self _ h, splice_all _ _ (by rw [Pc.len]; omega)]; rfl

set_option maxRecDepth 100000 in
set_option maxHeartbeats 1000000 in
theorem withDot_any (p : Pc) (r n : Nat) (w : World) (hr : r < 3) (hn : n < 9) :
    Calls Tryz.prog 143 #[.agg p.arr, .int .i64 r, .int .i64 ((n : Int) + 1)] w fun e w' => e = .returned (.agg (p.put r n { p r n with known := true }).arr) ∧ Blw w w' := by
  obtain ⟨q, hq⟩ : ∃ q, q = p.put r n { p r n with known := true } := ⟨_, rfl⟩
  rw [← hq]
  have HQ := hid (show p.arr.setIfInBounds (r * 45 + n * 5) (.bool true) = q.arr by rw [hq]; exact set_known p r n hr hn)
  have HI := hid (show (Tryz.prog.info? 65).map (·.size) = some q.arr.size by rw [size63, Pc.size])
  have HI' := hid (show (Tryz.prog.info? 65).map (·.size) = some q.cells.length by rw [size63, Pc.len])
  clear hq
  have hk0 : (0 : Int) ≤ (r : Int) := Int.natCast_nonneg _
  have hk3 : (r : Int) < 3 := by omega
  have hc : p.arr[r * 45 + n * 5]? = some (.bool (p r n).known) := Pc.atRIK p r n 0 hr hn (by omega)
  go_enter Tryz.func143, Tryz.ntmps143
  go_wp2_with fail
  refine (isDot_yes r (n + 1) _ hr (by omega) (by omega)).mono ?_
  rintro e w2 ⟨rfl, rfl⟩
  go_upto_region 4 with fail
  rw [HQ.out]
  have hg : ((w.alloc (.cells q.arr 65)).alloc (.cells Tryz.zeroCells65 65)).heap[w.heap.size]? = some (.cells q.arr 65) := hp_old _ (by simp) (hp_new _ _)
  have hz : ((w.alloc (.cells q.arr 65)).alloc (.cells Tryz.zeroCells65 65)).heap[w.heap.size + 1]? = some (.cells Tryz.zeroCells65 65) := by simpa using hp_new (w.alloc (.cells q.arr 65)) (.cells Tryz.zeroCells65 65)
  go_wp2_with (first | (refine wpList_load_row (by rfl) 65 (.tmp 3) (by rfl) w.heap.size (by rfl) 65 q.arr (0, 0) _ hg Tryz.underlying65 rfl HI.out ?_) | (refine wpList_store_blk (by rfl) 65 (.tmp 6) (.tmp 19) (by rfl) (w.heap.size + 1) 0 q.cells (by rfl) (by rfl) Tryz.zeroCells65 65 hz (by rw [Pc.len, zsize63]; omega) HI'.out (Pc.one _) ?_))
  exact bodyPost_ret (results_cell_row rfl _ _ (w.heap.size + 1) 65 q.arr (0, 0) _ (by rfl) (hp_store q hz zsize63) Tryz.underlying65 rfl HI.out) rfl ⟨rfl, (((Blw.rfl _).al _).al _).scs _ _ _ (by omega)⟩

end Go.Proofs.YtalaldfgjgpacaaGreatDoor

namespace Go.Proofs.YtalaldfgjgpacaaGreatDoor
set_option linter.unusedVariables false
set_option linter.unusedSimpArgs false
open Go.RowKit
attribute [local go_sem ↓] Go.wp_at_zero Go.wp_at_succ

set_option maxRecDepth 100000 in
set_option maxHeartbeats 400000 in
theorem withEntry_any (p : Pc) (r n : Nat) (c it v : Int) (w : World) (hr : r < 3) (hn : n < 9) (hc0 : 0 ≤ c) (hc1 : c < 3) (hi0 : 0 ≤ it) (hi1 : it < 4) (hv0 : -99 ≤ v) (hv1 : v ≤ 99) :
    Calls Tryz.prog 139 #[.agg p.arr, .int .i64 r, .int .i64 ((n : Int) + 1), .agg #[.int .i64 c, .int .i64 it, .int .i64 v]] w fun e w' => e = .returned (.agg (p.put r n ⟨true, true, c, it, v⟩).arr) ∧ Blw w w' := by
  obtain ⟨q, hq⟩ : ∃ q, q = p.put r n ⟨true, true, c, it, v⟩ := ⟨_, rfl⟩
  rw [← hq]
  have HQ := hid (show splice p.arr (r * 45 + n * 5) (Sl.cells ⟨true, true, c, it, v⟩) = q.arr by rw [hq]; exact Pc.splice_slot p r n hr hn _)
  have HI := hid (show (Tryz.prog.info? 65).map (·.size) = some q.arr.size by rw [size63, Pc.size])
  have HI' := hid (show (Tryz.prog.info? 65).map (·.size) = some q.cells.length by rw [size63, Pc.len])
  clear hq
  have hk0 : (0 : Int) ≤ (r : Int) := Int.natCast_nonneg _
  have hk3 : (r : Int) < 3 := by omega
  have hn0 : (0 : Int) ≤ (n : Int) := Int.natCast_nonneg _
  have hn9 : (n : Int) < 9 := by omega
  have q0 : p.arr[r * 45 + n * 5]? = some (.bool (p r n).known) := Pc.atRIK p r n 0 hr hn (by omega)
  have q1 : p.arr[r * 45 + n * 5 + 1]? = some (.bool (p r n).filled) := Pc.atRIK p r n 1 hr hn (by omega)
  have q2 : p.arr[r * 45 + n * 5 + 2]? = some (.int .i64 (p r n).cart) := Pc.atRIK p r n 2 hr hn (by omega)
  have q3 : p.arr[r * 45 + n * 5 + 3]? = some (.int .i64 (p r n).item) := Pc.atRIK p r n 3 hr hn (by omega)
  have q4 : p.arr[r * 45 + n * 5 + 4]? = some (.int .i64 (p r n).value) := Pc.atRIK p r n 4 hr hn (by omega)
  go_enter Tryz.func139, Tryz.ntmps139
  go_wp2_with fail
  refine (isDot_yes r (n + 1) _ hr (by omega) (by omega)).mono ?_
  rintro e w2 ⟨rfl, rfl⟩
  go_wp2_with fail
  refine (isEntry_yes c it v _ hc0 hc1 hi0 hi1 hv0 hv1).mono ?_
  rintro e w2 ⟨rfl, b2⟩
  have g0 : w2.heap[w.heap.size]? = some (.cells p.arr 65) := (b2.bk _ (by simp; omega)).trans (hp_old _ (by simp; omega) (hp_old _ (by simp) (hp_new _ _)))
  have g1 : w2.heap[w.heap.size + 1]? = some (.cells #[.int .i64 c, .int .i64 it, .int .i64 v] 59) := (b2.bk _ (by simp)).trans (hp_old _ (by simp) (by simpa using hp_new (w.alloc (.cells p.arr 65)) _))
  have g2 : w2.heap[w.heap.size + 1 + 1]? = some (.cells Tryz.zeroCells65 65) := (b2.bk _ (by simp)).trans (by simpa using hp_new ((w.alloc (.cells p.arr 65)).alloc (.cells #[.int .i64 c, .int .i64 it, .int .i64 v] 59)) _)
  have hbw : Blw w w2 := ((((Blw.rfl _).al _).al _).al _).tr b2
  have G := hid (And.intro g0 (And.intro g1 (And.intro g2 hbw)))
  obtain ⟨p0, p1, p2, p3, p4⟩ := cells5 g0 r n hr hn
  have f0 := blk_frozen g0 (r * 45 + n * 5)
  have f1 := blk_frozen g0 (r * 45 + n * 5 + 1)
  have f2 := blk_frozen g0 (r * 45 + n * 5 + 2)
  have f3 := blk_frozen g0 (r * 45 + n * 5 + 3)
  have f4 := blk_frozen g0 (r * 45 + n * 5 + 4)
  have e0 : w2.cell? ⟨w.heap.size + 1, 0, none⟩ = some (.int .i64 c) := blk_cell g1 0
  have e1 : w2.cell? ⟨w.heap.size + 1, 1, none⟩ = some (.int .i64 it) := blk_cell g1 1
  have e2 : w2.cell? ⟨w.heap.size + 1, 2, none⟩ = some (.int .i64 v) := blk_cell g1 2
  clear b2 g0 g1 g2 hbw
  have hwr : IntKind.i64.wrap (n : Int) = n := by rw [IntKind.wrap_i64]; omega
  go_upto_region 5 with fail
  go_region
  go_upto_region 6 with fail
  obtain ⟨w3, hw3⟩ : ∃ w3, w3 = w2.setCells w.heap.size (r * 45 + n * 5) (Sl.cells ⟨true, true, c, it, v⟩) := ⟨_, rfl⟩
  have hg : w3.drew.heap[w.heap.size]? = some (.cells q.arr 65) := by
    show w3.heap[w.heap.size]? = _
    rw [hw3, heap_setCells_self _ G.out.1, HQ.out]
  have hz : w3.drew.heap[w.heap.size + 1 + 1]? = some (.cells Tryz.zeroCells65 65) := by
    show w3.heap[w.heap.size + 1 + 1]? = _
    rw [hw3, heap_setCells_ne _ (by omega)]; exact G.out.2.2.1
  have hb3 : Blw w w3.drew := by rw [hw3]; exact (G.out.2.2.2.scs _ _ _ (by omega)).dr
  have hw4 : (((((w2.setCell ⟨w.heap.size, r * 45 + n * 5, none⟩ (.bool true)).setCell ⟨w.heap.size, r * 45 + n * 5 + 1, none⟩ (.bool true)).setCell ⟨w.heap.size, r * 45 + n * 5 + 2, none⟩ (.int .i64 c)).setCell ⟨w.heap.size, r * 45 + n * 5 + 3, none⟩ (.int .i64 it)).setCell ⟨w.heap.size, r * 45 + n * 5 + 4, none⟩ (.int .i64 v)) = w3 := by rw [hw3]; rfl
  rw [hw4]
  clear hw4 hw3 p0 p1 p2 p3 p4 f0 f1 f2 f3 f4 e0 e1 e2 q0 q1 q2 q3 q4
  go_wp2_with (first | (refine wpList_load_row (by rfl) 65 (.tmp 4) (by rfl) w.heap.size (by rfl) 65 q.arr (0, 0) _ hg Tryz.underlying65 rfl HI.out ?_) | (refine wpList_store_blk (by rfl) 65 (.tmp 8) (.tmp 26) (by rfl) (w.heap.size + 1 + 1) 0 q.cells (by rfl) (by rfl) Tryz.zeroCells65 65 hz (by rw [Pc.len, zsize63]; omega) HI'.out (Pc.one _) ?_))
  exact bodyPost_ret (results_cell_row rfl _ _ (w.heap.size + 1 + 1) 65 q.arr (0, 0) _ (by rfl) (hp_store q hz zsize63) Tryz.underlying65 rfl HI.out) rfl ⟨rfl, hb3.scs _ _ _ (by omega)⟩
end Go.Proofs.YtalaldfgjgpacaaGreatDoor

namespace Go.Proofs.YtalaldfgjgpacaaGreatDoor
set_option linter.unusedVariables false
set_option linter.unusedSimpArgs false
open Go.RowKit
variable {xt : Ext}
attribute [local go_sem ↓] Go.wp_at_zero Go.wp_at_succ

theorem count_cells (p : Pc) (r : Int) (w : World) :
    Calls Tryz.prog 82 #[.agg p.cells.toArray, .int .i64 r] w fun e w' => e = .returned (.int .i64 (p.count r)) ∧ Blw w w' := count_any p r w

theorem lt_of_blk {w : World} {b : Nat} {o : Obj} (h : w.heap[b]? = some o) : b < w.heap.size := by
  rcases Nat.lt_or_ge b w.heap.size with hb | hb
  · exact hb
  · rw [Array.getElem?_eq_none hb] at h; cases h

set_option maxRecDepth 100000 in
set_option maxHeartbeats 1000000 in
theorem counts_any (b me n : Nat) (p : Pc) (w : World) (hn : n ≤ 3) (h : w.heap[b]? = some (.cells (repArr me n p xt) 69)) :
    Calls Tryz.prog 35 #[.pointer (some ⟨b, 0, none⟩)] w fun e w' => e = .returned (.string ⟨(p.digsTo n).toArray⟩) ∧ Blw w w' := by
  have hbl := lt_of_blk h
  have HI := hid (show (Tryz.prog.info? 65).map (·.size) = some p.cells.length by rw [size63, Pc.len])
  have H0 := hid h
  clear h
  go_enter Tryz.func35, Tryz.ntmps35
  go_wp2
  go_loopw [3, 4] (fun s r wr => ∃ k : Nat, k ≤ n ∧ r = .int .i64 k ∧ s = .string ⟨(p.digsTo k).toArray⟩ ∧ Blw w wr) (fun _ r _ => n - (intOf r).toNat)
  case atStart => exact ⟨0, by omega, rfl, rfl, Blw.rfl _⟩
  case round =>
    obtain ⟨k, hk, rfl, rfl, hb⟩ := hrel
    have H := hid hb
    have hr := (hb.bk b hbl).trans H0.out
    have hcn := rep_n hr
    have hrg := rep_range hr
    have hln := digsTo_len p k
    have HS : Hid (p.digsTo (k + 1) = p.digsTo k ++ [dig (p.count (k : Int))]) := rfl
    clear hb hr
    by_cases hlt : k < n
    · generalize p.digsTo k = tx at *
      have hcnt := Pc.count_le p (k : Int)
      go_wp2_with (first | (refine wpList_load_mid (by rfl) 65 (.tmp 16) (by rfl) b 2 (by rfl) p.cells _ hrg Tryz.underlying65 rfl HI.out ?_))
      refine (count_cells p k _).mono ?_
      rintro e w1 ⟨rfl, b1⟩
      have H1 := hid (H.out.tr b1)
      clear b1 hcn hrg
      obtain ⟨d, hd⟩ : ∃ d, d = p.count (k : Int) := ⟨_, rfl⟩
      rw [← hd] at hcnt
      rw [← hd]
      have HD := hid hd
      clear hd
      go_wp2_with fail
      refine (itoa_digit d (by omega) _).mono ?_
      rintro e w2 ⟨rfl, rfl⟩
      go_wp2
      go_roundw
      case rel => exact ⟨k + 1, by omega, by go_num, by rw [HS.out, ← HD.out, bytes_app], H1.out⟩
      case measure => simp [intOf]; omega
    · have hkn : k = n := by omega
      subst hkn
      go_wp2
      go_ret
      exact ⟨rfl, H.out⟩

/-- The token's bytes, one by one. -/
def digsIn (l : List UInt8) : Nat → Bool
  | 0 => true
  | k + 1 => digsIn l k && isDigB (l.getD k 0)

theorem digsIn_all (l : List UInt8) : ∀ k, k ≤ l.length → digsIn l k = (l.take k).all isDigB := by
  intro k
  induction k with
  | zero => intro _; rfl
  | succ k ih =>
    intro hk
    rw [digsIn, ih (by omega), List.take_succ_eq_append_getElem (by omega), List.all_append]
    simp [List.getD, List.getElem?_eq_getElem (show k < l.length by omega)]

set_option maxRecDepth 100000 in
set_option maxHeartbeats 1000000 in
theorem isToken_any (b me n : Nat) (p : Pc) (s : ByteArray) (w : World) (hs : s.size ≤ maxLen) (h : w.heap[b]? = some (.cells (repArr me n p xt) 69)) :
    Calls Tryz.prog 144 #[.pointer (some ⟨b, 0, none⟩), .string s] w fun e w' => e = .returned (.bool (isTok n s.data.toList)) ∧ w' = w := by
  unfold maxLen at hs
  have hcn := rep_n h
  have hsz : s.data.toList.length = s.size := Array.length_toList
  obtain ⟨t, ht⟩ : ∃ t, t = isTok n s.data.toList := ⟨_, rfl⟩
  rw [← ht]
  have HT := hid ht
  clear ht h
  by_cases hl : s.size = n
  · have hl1 : ((s.size : Int) != (n : Int)) = false := by simp; omega
    have HL := hid hl
    clear hl
    have HZ := hid hsz
    clear hsz
    go_enter Tryz.func144, Tryz.ntmps144
    go_wp2
    go_loop [5] (fun i => ∃ k : Nat, k ≤ s.size ∧ i = .int .i64 k ∧ digsIn s.data.toList k = true) (fun i => s.size - (intOf i).toNat)
    case atStart => exact ⟨0, by omega, rfl, rfl⟩
    case round =>
      obtain ⟨k, hk, rfl, hdg⟩ := hrel
      have HDG := hid hdg
      clear hdg
      by_cases hlt : k < s.size
      · have HE : Hid (s.data.toList.getD k 0 = s[k]) := by
          show s.data.toList.getD k 0 = s[k]
          simp [List.getD, List.getElem?_eq_getElem (show k < s.data.toList.length by rw [HZ.out]; exact hlt)]
          rfl
        have HN : ∀ x : Bool, isDigB s[k] = x → Hid (digsIn s.data.toList (k + 1) = x) := fun x hx => by
          show digsIn s.data.toList (k + 1) = x
          rw [digsIn, HDG.out, HE.out, hx]; rfl
        have HB : Hid (isDigB s[k] = decide (48 ≤ (s[k].toNat : Int) ∧ (s[k].toNat : Int) ≤ 57)) := by
          show isDigB s[k] = _
          unfold isDigB
          rw [Bool.eq_iff_iff]; simp [UInt8.le_iff_toNat_le]; omega
        have HNO : isDigB s[k] = false → Hid (t = false) := fun hx => by
          show t = false
          have h1 : digsIn s.data.toList (k + 1) = false := (HN _ hx)
          rw [HT.out, isTok]
          cases hall : s.data.toList.all isDigB with
          | false => simp
          | true =>
            exfalso
            rw [digsIn_all _ _ (by rw [HZ.out]; omega)] at h1
            rw [List.all_eq_false] at h1
            obtain ⟨x, hx1, hx2⟩ := h1
            exact hx2 ((List.all_eq_true.1 hall) x (List.mem_of_mem_take hx1))
        by_cases h1 : (s[k].toNat : Int) < 48
        · have HF := HNO (by rw [HB.out]; simp; omega)
          clear HN HNO
          go_wp2
          go_ret
          exact ⟨by rw [HF.out]; rfl, rfl⟩
        · have h1' : decide ((s[k].toNat : Int) < 48) = false := by simpa using h1
          by_cases h2 : (57 : Int) < (s[k].toNat : Int)
          · have HF := HNO (by rw [HB.out]; simp; omega)
            clear HN HNO
            go_wp2
            go_ret
            exact ⟨by rw [HF.out]; rfl, rfl⟩
          · have h2' : decide ((57 : Int) < (s[k].toNat : Int)) = false := by simpa using h2
            have HG := HN true (by rw [HB.out]; simp; omega)
            clear HN HNO
            go_wp2
            go_round
            case rel => exact ⟨k + 1, by omega, by go_num, HG.out⟩
            case measure => simp [intOf]; omega
      · have hkn : k = s.size := by omega
        subst hkn
        have HF : Hid (t = true) := by
          show t = true
          have h1 := HDG.out
          rw [digsIn_all _ _ (by rw [HZ.out]; omega), List.take_of_length_le (by rw [HZ.out]; omega)] at h1
          rw [HT.out, isTok, h1, HZ.out, HL.out]; simp
        go_wp2
        go_ret
        exact ⟨by rw [HF.out]; rfl, rfl⟩
  · have hl1 : ((s.size : Int) != (n : Int)) = true := by simp; omega
    have HF : Hid (t = false) := by rw [HT.out]; simp [isTok, hsz, hl]; exact trivial
    clear hl
    go_enter Tryz.func144, Tryz.ntmps144
    go_wp2
    go_ret
    exact ⟨by rw [HF.out]; rfl, rfl⟩
end Go.Proofs.YtalaldfgjgpacaaGreatDoor

namespace Go.Proofs.YtalaldfgjgpacaaGreatDoor
set_option linter.unusedVariables false
set_option linter.unusedSimpArgs false
open Go.RowKit
variable {xt : Ext}
attribute [local go_sem ↓] Go.wp_at_zero Go.wp_at_succ

theorem stale_mono (p : Pc) (l : List UInt8) (k : Nat) (h : staleTo p l k = true) : ∀ m, k ≤ m → staleTo p l m = true := by
  intro m
  induction m with
  | zero => intro hk; have : k = 0 := by omega
            subst this; exact h
  | succ m ih =>
    intro hk
    by_cases e : k = m + 1
    · subst e; exact h
    · rw [staleTo, ih (by omega)]; rfl

set_option maxRecDepth 100000 in
set_option maxHeartbeats 1000000 in
theorem checkToken_any (b me n : Nat) (p : Pc) (s : ByteArray) (w : World) (hn : n ≤ 3) (hs : s.size ≤ maxLen) (h : w.heap[b]? = some (.cells (repArr me n p xt) 69)) :
    Calls Tryz.prog 98 #[.pointer (some ⟨b, 0, none⟩), .string s] w fun e w' => e = .returned (.int .i64 (tokErr n p s.data.toList)) ∧ Blw w w' := by
  have HS := hid hs
  unfold maxLen at hs
  have hbl := lt_of_blk h
  have HI := hid (show (Tryz.prog.info? 65).map (·.size) = some p.cells.length by rw [size63, Pc.len])
  have H0 := hid h
  have HZ := hid (show s.data.toList.length = s.size from Array.length_toList)
  clear h
  obtain ⟨t, ht⟩ : ∃ t, t = tokErr n p s.data.toList := ⟨_, rfl⟩
  rw [← ht]
  have HT := hid ht
  clear ht
  go_enter Tryz.func98, Tryz.ntmps98
  go_wp2_with fail
  refine (isToken_any b me n p s _ HS.out H0.out).mono ?_
  rintro e w1 ⟨rfl, hw1⟩
  subst w1
  cases htk : isTok n s.data.toList
  · have HF : Hid (t = 2) := by show t = 2; rw [HT.out, tokErr, htk]; rfl
    go_wp2
    go_ret
    exact ⟨by rw [HF.out]; rfl, Blw.rfl _⟩
  · have HK := hid htk
    clear htk
    have hn3 : s.size = n := by have := HK.out; simp only [isTok, Bool.and_eq_true, beq_iff_eq] at this; rw [← HZ.out]; exact this.1
    have hss : s.size ≤ 3 := by omega
    have hall : ∀ k (hk : k < s.size), 48 ≤ (s[k].toNat : Int) ∧ (s[k].toNat : Int) ≤ 57 := by
      intro k hk
      have := HK.out; simp only [isTok, Bool.and_eq_true] at this
      have h2 := (List.all_eq_true.1 this.2) s[k] (by rw [show s[k] = s.data.toList[k]'(by rw [HZ.out]; exact hk) from rfl]; exact List.getElem_mem _)
      simp only [isDigB, Bool.and_eq_true, decide_eq_true_eq, UInt8.le_iff_toNat_le] at h2
      have e1 : (48 : UInt8).toNat = 48 := rfl
      have e2 : (57 : UInt8).toNat = 57 := rfl
      omega
    have HALL := hid hall
    have HN3 := hid hn3
    clear hall hn3
    go_wp2_with fail
    go_loopw [5] (fun i wr => ∃ k : Nat, k ≤ s.size ∧ i = .int .i64 k ∧ staleTo p s.data.toList k = false ∧ Blw w wr) (fun i _ => s.size - (intOf i).toNat)
    case atStart => exact ⟨0, by omega, rfl, rfl, Blw.rfl _⟩
    case round =>
      obtain ⟨k, hk, rfl, hst, hb⟩ := hrel
      have HST := hid hst
      have H := hid hb
      have hr := (hb.bk b hbl).trans H0.out
      have hrg := rep_range hr
      clear hst hb hr
      by_cases hlt : k < s.size
      · obtain ⟨g0, g1⟩ := HALL.out k hlt
        have hcnt := Pc.count_le p (k : Int)
        have HE : Hid (staleTo p s.data.toList (k + 1) = decide (p.count (k : Int) < s[k].toNat - 48)) := by
          show staleTo p s.data.toList (k + 1) = _
          rw [staleTo, HST.out]
          simp [List.getD, List.getElem?_eq_getElem (show k < s.data.toList.length by rw [HZ.out]; exact hlt)]
          rfl
        go_wp2_with (first | (refine wpList_load_mid (by rfl) 65 (.tmp 25) (by rfl) b 2 (by rfl) p.cells _ hrg Tryz.underlying65 rfl HI.out ?_))
        refine (count_cells p k _).mono ?_
        rintro e w1 ⟨rfl, b1⟩
        have H1 := hid (H.out.tr b1)
        clear b1 hrg
        obtain ⟨d, hd⟩ : ∃ d, d = p.count (k : Int) := ⟨_, rfl⟩
        rw [← hd] at hcnt
        rw [← hd]
        have HD := hid hd
        clear hd
        by_cases hgt : (d : Int) < (s[k].toNat : Int) - 48
        · have HF : Hid (t = 3) := by
            show t = 3
            have h1 : staleTo p s.data.toList (k + 1) = true := by rw [HE.out, ← HD.out]; simp; omega
            rw [HT.out, tokErr, HK.out, stale_mono p _ _ h1 _ (by rw [HZ.out]; omega)]; rfl
          go_wp2
          go_ret
          exact ⟨by rw [HF.out]; rfl, H1.out⟩
        · have HG : Hid (staleTo p s.data.toList (k + 1) = false) := by
            show staleTo p s.data.toList (k + 1) = false
            rw [HE.out, ← HD.out]; simp; omega
          go_wp2
          go_roundw
          case rel => exact ⟨k + 1, by omega, by go_num, HG.out, H1.out⟩
          case measure => simp [intOf]; omega
      · have hkn : k = s.size := by omega
        subst hkn
        have HF : Hid (t = 0) := by
          show t = 0
          rw [HT.out, tokErr, HK.out, HZ.out, HST.out]; rfl
        go_wp2
        go_ret
        exact ⟨by rw [HF.out]; rfl, H.out⟩

end Go.Proofs.YtalaldfgjgpacaaGreatDoor

namespace Go.Proofs.YtalaldfgjgpacaaGreatDoor
set_option linter.unusedVariables false
set_option linter.unusedSimpArgs false
open Go.RowKit
variable {xt : Ext}
attribute [local go_sem ↓] Go.wp_at_zero Go.wp_at_succ run_load63 run_store63
attribute [local go_sem] blkOf_mk offOf_mk isPt_mk isRow_pc

set_option maxRecDepth 100000 in
set_option maxHeartbeats 400000 in
theorem nextNumber_any (b me n : Nat) (p : Pc) (w : World) (h : w.heap[b]? = some (.cells (repArr me n p xt) 69)) :
    Calls Tryz.prog 138 #[.pointer (some ⟨b, 0, none⟩)] w fun e w' => e = .returned (.int .i64 ((p.count (me : Int) : Int) + 1)) ∧ Blw w w' := by
  have hbl := lt_of_blk h
  have H := hid h
  have hme := rep_me h
  have hrow := rowOf_rep h
  have hhas := Has_rep h
  have hcnt := Pc.count_le p (me : Int)
  have HC := hid (fun wx => count_any p me wx)
  generalize p.count (me : Int) = d at *
  clear h
  go_enter Tryz.func138, Tryz.ntmps138
  go_wp2
  go_region_held3 (fun w' => Has w' b 2 ∧ rowOf w' b 2 = p.arr ∧ w'.cell? ⟨b, 0, none⟩ = some (.int .i64 me)) (first | exact ⟨hh1, hr1, hm1⟩ | exact ⟨hhas, hrow, hme⟩)
    (first | (go_at_call 82; refine (HC.out _).mono ?_; rintro e w1 ⟨rfl, b1⟩; have hr1 := rowOf_rep ((b1.bk b hbl).trans H.out); have hh1 := Has_rep ((b1.bk b hbl).trans H.out); have hm1 := rep_me ((b1.bk b hbl).trans H.out)))
  go_wp2
  go_ret
  exact ⟨rfl, Blw.tr (Blw.dr (Blw.rfl _)) b1⟩

/-- The world behind a draw. -/
theorem drew_blk {w : World} {b : Nat} {x : Option Obj} (h : w.heap[b]? = x) : w.drew.heap[b]? = x := h

set_option maxRecDepth 100000 in
set_option maxHeartbeats 400000 in
theorem checkEvent_any (b me n : Nat) (p : Pc) (s : ByteArray) (w : World) (hn : n ≤ 3) (hs : s.size ≤ maxLen) (h : w.heap[b]? = some (.cells (repArr me n p xt) 69)) :
    Calls Tryz.prog 137 #[.pointer (some ⟨b, 0, none⟩), .string s] w fun e w' => e = .returned (.int .i64 (evErr me n p s.data.toList)) ∧ Blw w w' := by
  have hbl := lt_of_blk h
  have H := hid h
  have HC := hid (fun wx => count_any p me wx)
  have HT := hid (checkToken_any b me n p s w hn hs h)
  have HE : Hid (evErr me n p s.data.toList = if tokErr n p s.data.toList = 0 then (if 9 ≤ p.count (me : Int) then 4 else 0) else tokErr n p s.data.toList) := rfl
  have hcnt := Pc.count_le p (me : Int)
  generalize evErr me n p s.data.toList = ee at *
  generalize tokErr n p s.data.toList = te at *
  generalize p.count (me : Int) = d at *
  clear h hs
  go_enter Tryz.func137, Tryz.ntmps137
  go_wp2_with fail
  refine HT.out.mono ?_
  rintro e w0 ⟨rfl, b0⟩
  by_cases ht : te = 0
  · have ht1 : (te != 0) = false := by simp [ht]
    have HE2 : Hid (ee = if 9 ≤ d then 4 else 0) := by show ee = _; rw [HE.out, if_pos ht]
    clear ht
    have B0 := hid b0
    have hrow := rowOf_rep ((b0.bk b hbl).trans H.out)
    have hhas := Has_rep ((b0.bk b hbl).trans H.out)
    have hme := rep_me ((b0.bk b hbl).trans H.out)
    have H2 := hid ((b0.bk b hbl).trans H.out)
    have hbl2 := lt_of_blk H2.out
    clear b0
    by_cases h9 : 9 ≤ d
    · have HE3 : Hid (ee = 4) := by show ee = _; rw [HE2.out, if_pos h9]
      go_wp2
      go_region_held3 (fun w' => Has w' b 2 ∧ rowOf w' b 2 = p.arr ∧ w'.cell? ⟨b, 0, none⟩ = some (.int .i64 me)) (first | exact ⟨hh1, hr1, hm1⟩ | exact ⟨hhas, hrow, hme⟩)
        (first | (go_at_call 82; refine (HC.out _).mono ?_; rintro e w1 ⟨rfl, b1⟩; have hr1 := rowOf_rep ((b1.bk b hbl2).trans H2.out); have hh1 := Has_rep ((b1.bk b hbl2).trans H2.out); have hm1 := rep_me ((b1.bk b hbl2).trans H2.out)))
      go_wp2
      go_ret
      exact ⟨by rw [HE3.out]; rfl, B0.out.tr (Blw.tr (Blw.dr (Blw.rfl _)) b1)⟩
    · have HE3 : Hid (ee = 0) := by show ee = _; rw [HE2.out, if_neg h9]
      go_wp2
      go_region_held3 (fun w' => Has w' b 2 ∧ rowOf w' b 2 = p.arr ∧ w'.cell? ⟨b, 0, none⟩ = some (.int .i64 me)) (first | exact ⟨hh1, hr1, hm1⟩ | exact ⟨hhas, hrow, hme⟩)
        (first | (go_at_call 82; refine (HC.out _).mono ?_; rintro e w1 ⟨rfl, b1⟩; have hr1 := rowOf_rep ((b1.bk b hbl2).trans H2.out); have hh1 := Has_rep ((b1.bk b hbl2).trans H2.out); have hm1 := rep_me ((b1.bk b hbl2).trans H2.out)))
      go_wp2
      go_ret
      exact ⟨by rw [HE3.out]; rfl, B0.out.tr (Blw.tr (Blw.dr (Blw.rfl _)) b1)⟩
  · have ht1 : (te != 0) = true := by simp [ht]
    have HE2 : Hid (ee = te) := by show ee = _; rw [HE.out, if_neg ht]
    clear ht
    go_wp2
    go_ret
    exact ⟨by rw [HE2.out]; rfl, b0⟩

end Go.Proofs.YtalaldfgjgpacaaGreatDoor
