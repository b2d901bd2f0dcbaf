import Derived.Test.YtalaldfgjgpacaaGreatDoorQB
import Derived.Test.YtalaldfgjgpacaaGreatDoorRA
import Derived.Test.YtalaldfgjgpacaaGreatDoorWC
namespace Go.Proofs.YtalaldfgjgpacaaGreatDoor
set_option linter.unusedVariables false
set_option linter.unusedSimpArgs false
open Go.RowKit

theorem nodup_le {α : Type} [BEq α] [LawfulBEq α] : ∀ (l m : List α), l.Nodup → (∀ x ∈ l, x ∈ m) → l.length ≤ m.length := by
  intro l
  induction l with
  | nil => intro m _ _; simp
  | cons x l ih =>
    intro m hn hs
    rw [List.nodup_cons] at hn
    have hx := hs x List.mem_cons_self
    have := ih (m.erase x) hn.2 (fun y hy => by
      rw [List.mem_erase_of_ne (fun e => hn.1 (by rw [← e]; exact hy))]
      exact hs y (List.mem_cons_of_mem _ hy))
    rw [List.length_erase_of_mem hx] at this
    have hp : 0 < m.length := List.length_pos_of_mem hx
    simp only [List.length_cons]; omega

theorem dlTo_len (p : Pc) (n : Nat) : (p.dlTo n).length ≤ n := by
  induction n with
  | zero => simp [Pc.dlTo]
  | succ n ih => rw [Pc.dlTo, List.length_append]; split <;> simp <;> omega

theorem RelP.lenD {p : Pc} {D E : List Bs} (h : RelP p D E) (hp : p.ok) : D.length ≤ 27 := by rw [h.eqD hp]; exact dlTo_len p 27

theorem RelP.lenE {p : Pc} {D E : List Bs} (h : RelP p D E) (hp : p.ok) : E.length ≤ 27 := by
  have h1 : (E.map dotOf).Nodup := List.pairwise_map.2 (h.ents_dots hp)
  have h2 := nodup_le (E.map dotOf) D h1 (fun x hx => by
    obtain ⟨e, he, rfl⟩ := List.mem_map.1 hx
    obtain ⟨r, i, hr, hi, hf, rfl⟩ := (h.me _).1 he
    exact (h.md _).2 ⟨r, i, hr, hi, (hp r i hr hi hf).1, rfl⟩)
  rw [List.length_map] at h2
  have := h.lenD hp; omega

theorem RelP.e7 {p : Pc} {D E : List Bs} (h : RelP p D E) : ∀ x ∈ E, x.length = 7 := fun x hx => by
  obtain ⟨r, i, _, _, _, rfl⟩ := (h.me _).1 hx; rfl
theorem RelP.d2 {p : Pc} {D E : List Bs} (h : RelP p D E) : ∀ x ∈ D, ∃ c0 c1 : UInt8, x = [c0, c1] ∧ 48 ≤ c0.toNat := fun x hx => by
  obtain ⟨r, i, hr, _, _, rfl⟩ := (h.md _).1 hx
  exact ⟨_, _, rfl, by rw [dig_toNat r (by omega)]; omega⟩

theorem RelP.pcAt {p : Pc} {D E : List Bs} (h : RelP p D E) (hp : p.ok) {w : World} {a b : Value} (ha : Ls w 0 a D) (hb : Ls w 0 b E) : PcAt w a b D E :=
  ⟨ha, hb, by have := h.lenD hp; omega, by have := h.lenE hp; omega, h.e7, h.d2⟩

theorem elAll_flat (p : Pc) (n : Nat) : (p.elAll n).flatten = p.entTo n := by
  induction n with
  | zero => rfl
  | succ n ih => rw [Pc.elAll, Pc.entTo, List.flatten_append, ih, textTo_flat]

theorem flat_len (E : List Bs) (m : Nat) (h : ∀ x ∈ E, x.length = m) : E.flatten.length = m * E.length := by
  induction E with
  | nil => simp
  | cons x E ih =>
    rw [List.flatten_cons, List.length_append, ih (fun y hy => h y (List.mem_cons_of_mem _ hy)), h x List.mem_cons_self, List.length_cons, Nat.mul_succ]; omega

/-- A piece as text. -/
def Pc.text (p : Pc) : Bs := p.dtTo 27 ++ [59] ++ p.entTo 12

theorem entTo_len' (p : Pc) (hp : p.ok) : (p.entTo 12).length ≤ 189 := by
  have h := rel_lists p hp
  rw [← elAll_flat, flat_len _ 7 h.e7]
  have := h.lenE hp; omega
theorem text_len' (p : Pc) (hp : p.ok) : p.text.length ≤ 244 := by
  have h1 := entTo_len' p hp
  have h2 := dtTo_len p 27
  simp only [Pc.text, List.length_append, List.length_singleton]; omega

theorem RelP.write {p : Pc} {D E : List Bs} (h : RelP p D E) (hp : p.ok) : writeL D E = p.text := by
  unfold writeL Pc.text
  rw [h.eqD hp, h.eqE hp, dtTo_flat, elAll_flat]

theorem RelP.tok {p : Pc} {D E : List Bs} (h : RelP p D E) (hp : p.ok) (n : Nat) : tokL D n = p.digsTo n := by
  induction n with
  | zero => rfl
  | succ n ih =>
    have hc := Pc.count_le p (n : Int)
    rw [tokL, Pc.digsTo, ih, h.known hp, Nat.mod_eq_of_lt (by omega)]
theorem RelP.ents {p : Pc} {D E : List Bs} (h : RelP p D E) (hp : p.ok) : E.flatten = p.entTo 12 := by rw [h.eqE hp, elAll_flat]

/-- A frame. -/
def frameL (l : Bs) : Bs := lastD l.length 3 ++ l
theorem frameL_len (l : Bs) : (frameL l).length = 3 + l.length := by simp [frameL, lastD_len]
theorem three_last (d : Nat) (h : d < 1000) : [dig (d / 100), dig (d / 10 % 10), dig (d % 10)] = lastD d 3 := by
  simp only [lastD, Nat.pow_zero, Nat.div_one, Nat.pow_one]
  have : d / 10 ^ 2 % 10 = d / 100 := by simp; omega
  rw [this]

end Go.Proofs.YtalaldfgjgpacaaGreatDoor

namespace Go.Proofs.YtalaldfgjgpacaaGreatDoor
set_option linter.unusedVariables false
set_option linter.unusedSimpArgs false
open Go.RowKit
attribute [local go_sem ↓] Go.wp_at_zero Go.wp_at_succ run_load63 run_store63
attribute [local go_sem] blkOf_mk offOf_mk isPt_mk isRow_pc Has_drew HasW_drew rowOf_drew

set_option maxRecDepth 100000 in
set_option maxHeartbeats 1000000 in
theorem dotsText_any (p : Pc) (w : World) :
    Calls Tryz.prog 153 #[.agg p.arr] w fun e w' => e = .returned (.string ⟨(p.dtTo 27).toArray⟩) ∧ Blw w w' := by
  go_enter Tryz.func153, Tryz.ntmps153
  go_wp2
  go_loopw [3, 4] (fun s r wr => ∃ k : Nat, k ≤ 3 ∧ r = .int .i64 k ∧ s = .string ⟨(p.dtTo (k * 9)).toArray⟩ ∧ HasPc p w wr) (fun _ r _ => 3 - (intOf r).toNat)
  case atStart => exact ⟨0, by omega, rfl, rfl, HasPc.start p w⟩
  case round =>
    obtain ⟨k, hk, rfl, rfl, hJR⟩ := hrel
    by_cases hlt : k < 3
    · have hd : decide ((k : Int) < 3) = true := by simp; omega
      go_wp2
      go_loopw [3, 5] (fun s i wr => ∃ m : Nat, m ≤ 9 ∧ i = .int .i64 m ∧ s = .string ⟨(p.dtTo (k * 9 + m)).toArray⟩ ∧ HasPc p w wr) (fun _ i _ => 9 - (intOf i).toNat)
      case atStart => exact ⟨0, by omega, rfl, rfl, hJR⟩
      case round =>
        clear hJR
        obtain ⟨m, hm, rfl, rfl, hJR⟩ := hrel
        by_cases hlm : m < 9
        · have H := hid hJR
          have hln := dtTo_len p (k * 9 + m)
          have HS := hid (dtTo_succ p k m hlm)
          generalize p.dtTo (k * 9 + m) = tx at *
          obtain ⟨p0, p1, p2, p3, p4⟩ := cells5 hJR.1 k m hlt hlm
          have hk0 : (0 : Int) ≤ (k : Int) := Int.natCast_nonneg _
          have hk3 : (k : Int) < 3 := by omega
          have hm0 : (0 : Int) ≤ (m : Int) := Int.natCast_nonneg _
          have hm9 : (m : Int) < 9 := by omega
          clear hJR
          cases hi : (p k m).known
          · rw [hi] at p0
            go_wp2
            go_roundw
            case rel => exact ⟨m + 1, by omega, by go_num, by rw [HS.out, hi]; simp, H.out⟩
            case measure => simp [intOf]; omega
          · rw [hi] at p0
            go_wp2_with fail
            refine (dotText_any k (m + 1) _ (by omega) (by omega)).mono ?_
            rintro e w3 ⟨rfl, rfl⟩
            have tl : (dotT k m).length = 2 := rfl
            go_wp2
            go_roundw
            case rel => exact ⟨m + 1, by omega, by go_num, by rw [HS.out, hi]; exact congrArg Value.string (ByteArray.mk_append_mk tx (dotT k m)), H.out⟩
            case measure => simp [intOf]; omega
        · have hm9 : m = 9 := by omega
          subst hm9
          go_wp2
          go_roundw
          case rel => exact ⟨k + 1, by omega, by go_num, by rw [show (k + 1) * 9 = k * 9 + 9 by omega], hJR⟩
          case measure => simp [intOf]; omega
    · have hk3 : k = 3 := by omega
      subst hk3
      go_wp2
      go_ret
      exact ⟨rfl, hJR.2.2⟩

set_option maxRecDepth 100000 in
set_option maxHeartbeats 1000000 in
theorem text_any (p : Pc) (hp : p.ok) (w : World) :
    Calls Tryz.prog 129 #[.agg p.arr] w fun e w' => e = .returned (.string ⟨p.text.toArray⟩) ∧ Blw w w' := by
  have HT := hid (fun wx => dotsText_any p wx)
  have HE := hid (fun wx => entriesText_any p hp wx)
  have H0 := hid (HasPc.start p w)
  have hrow := rowOf_pc H0.out.1
  have hhas := Has_pc H0.out.1
  have l1 := dtTo_len p 27
  have l2 := entTo_len' p hp
  have HX : Hid (p.text = p.dtTo 27 ++ [59] ++ p.entTo 12) := rfl
  generalize p.dtTo 27 = d at *
  generalize p.entTo 12 = z at *
  clear hp
  go_enter Tryz.func129, Tryz.ntmps129
  go_wp2_with fail
  refine (HT.out _).mono ?_
  rintro e w1 ⟨rfl, b1⟩
  have H1 := hid (H0.out.on b1)
  have hrow1 := rowOf_pc H1.out.1
  have hhas1 := Has_pc H1.out.1
  clear b1 hrow hhas
  go_wp2_with fail
  refine (HE.out _).mono ?_
  rintro e w2 ⟨rfl, b2⟩
  have H2 := hid (H1.out.on b2)
  clear b2 hrow1 hhas1
  go_wp2
  go_ret
  exact ⟨ret_str (by rw [HX.out]; simp only [bytes_app, ByteArray.mk_append_mk]), H2.out.2.2⟩

set_option maxRecDepth 100000 in
set_option maxHeartbeats 1000000 in
theorem frame_any (l : Bs) (w : World) (hl : l.length < 1000) (ht : Tab Tryz.prog w) :
    Calls Tryz.prog 147 #[.string ⟨l.toArray⟩] w fun e w' => e = .returned (.string ⟨(frameL l).toArray⟩) ∧ Blw w w' := by
  have HT := hid (three_any l.length w hl ht)
  have HX : Hid (frameL l = [dig (l.length / 100), dig (l.length / 10 % 10), dig (l.length % 10)] ++ l) := by show frameL l = _; rw [three_last _ hl]; rfl
  clear ht
  go_enter Tryz.func147, Tryz.ntmps147
  go_wp2_with fail
  refine HT.out.mono ?_
  rintro e w1 ⟨rfl, b1⟩
  go_wp2
  go_ret
  exact ⟨ret_str (by rw [HX.out]; exact ByteArray.mk_append_mk _ l), b1⟩

set_option maxRecDepth 100000 in
set_option maxHeartbeats 1000000 in
theorem deltaFrame_any (p : Pc) (hp : p.ok) (w : World) (ht : Tab Tryz.prog w) :
    Calls Tryz.prog 131 #[.agg p.arr] w fun e w' => e = .returned (.string ⟨(frameL ([68] ++ p.text)).toArray⟩) ∧ Blw w w' := by
  have HT := hid (fun wx => text_any p hp wx)
  have H0 := hid (HasPc.start p w)
  have hrow := rowOf_pc H0.out.1
  have hhas := Has_pc H0.out.1
  have l1 := text_len' p hp
  have TB := hid ht
  generalize p.text = z at *
  have hl : ([68] ++ z).length < 1000 := by simp; omega
  have HF := hid (fun wx hw => frame_any ([68] ++ z) wx hl hw)
  have HA := hid (ByteArray.mk_append_mk [68] z)
  clear hp ht
  go_enter Tryz.func131, Tryz.ntmps131
  go_wp2_with fail
  refine (HT.out _).mono ?_
  rintro e w1 ⟨rfl, b1⟩
  have H1 := hid (H0.out.on b1)
  clear b1 hrow hhas
  go_wp2_with fail
  have HF1 := HF.out w1 (TB.out.blw H1.out.2.2)
  rw [← HA.out] at HF1
  refine HF1.mono ?_
  rintro e w2 ⟨rfl, b2⟩
  go_wp2
  go_ret
  exact ⟨rfl, H1.out.2.2.tr b2⟩

set_option maxRecDepth 100000 in
set_option maxHeartbeats 1000000 in
theorem wholeFrame_any (had : Nat) (p : Pc) (hp : p.ok) (w : World) (hh : had < 100) (ht : Tab Tryz.prog w) :
    Calls Tryz.prog 104 #[.int .i64 had, .agg p.arr] w fun e w' => e = .returned (.string ⟨(frameL ([83] ++ lastD had 2 ++ p.text)).toArray⟩) ∧ Blw w w' := by
  have HT := hid (fun wx => text_any p hp wx)
  have H0 := hid (HasPc.start p w)
  have l1 := text_len' p hp
  have TB := hid ht
  have H2 : Hid (lastD had 2 = [dig (had / 10), dig (had % 10)]) := by
    show lastD had 2 = _
    simp only [lastD, Nat.pow_zero, Nat.div_one, Nat.pow_one]; rw [Nat.mod_eq_of_lt (show had / 10 < 10 by omega)]
  rw [H2.out]
  generalize p.text = z at *
  have hl : ([83] ++ [dig (had / 10), dig (had % 10)] ++ z).length < 1000 := by simp; omega
  have HF := hid (fun wx hw => frame_any ([83] ++ [dig (had / 10), dig (had % 10)] ++ z) wx hl hw)
  have HA := hid (ByteArray.mk_append_mk ([83] ++ [dig (had / 10), dig (had % 10)]) z)
  have HA2 := hid (ByteArray.mk_append_mk [83] [dig (had / 10), dig (had % 10)])
  have HW := hid (fun wx => two_any had wx hh)
  clear hp ht
  go_enter Tryz.func104, Tryz.ntmps104
  go_wp2_with fail
  refine (HW.out _).mono ?_
  rintro e w0 ⟨rfl, rfl⟩
  have hrow := rowOf_pc H0.out.1
  have hhas := Has_pc H0.out.1
  go_wp2_with fail
  refine (HT.out _).mono ?_
  rintro e w1 ⟨rfl, b1⟩
  have H1 := hid (H0.out.on b1)
  clear b1 hrow hhas
  go_wp2_with fail
  have HF1 := HF.out w1 (TB.out.blw H1.out.2.2)
  rw [← HA.out, ← HA2.out] at HF1
  refine HF1.mono ?_
  rintro e w2 ⟨rfl, b2⟩
  go_wp2
  go_ret
  exact ⟨rfl, H1.out.2.2.tr b2⟩
end Go.Proofs.YtalaldfgjgpacaaGreatDoor
