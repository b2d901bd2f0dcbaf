import Derived.Test.YtalaldfgjgpacaaDoorWE
namespace Go.Proofs.YtalaldfgjgpacaaDoor
set_option linter.unusedVariables false
set_option linter.unusedSimpArgs false
open Go.RowKit

/-- One step of a script. -/
structure OpR where
  kind : Int
  r : Int
  t : Int
  a : Int
  b : Int
  c : Int
  s : ByteArray

def OpR.cells (o : OpR) : List Value := [.int .i64 o.kind, .int .i64 o.r, .int .i64 o.t, .int .i64 o.a, .int .i64 o.b, .int .i64 o.c, .string o.s]

/-- The steps lie in block sb from off on. -/
def Lies (ops : Nat → OpR) (len sb off : Nat) (w : World) : Prop :=
  ∀ i, i < len → w.cell? ⟨sb, off + i * 7, none⟩ = some (.int .i64 (ops i).kind) ∧ w.cell? ⟨sb, off + i * 7 + 1, none⟩ = some (.int .i64 (ops i).r) ∧ w.cell? ⟨sb, off + i * 7 + 2, none⟩ = some (.int .i64 (ops i).t) ∧
    w.cell? ⟨sb, off + i * 7 + 3, none⟩ = some (.int .i64 (ops i).a) ∧ w.cell? ⟨sb, off + i * 7 + 4, none⟩ = some (.int .i64 (ops i).b) ∧ w.cell? ⟨sb, off + i * 7 + 5, none⟩ = some (.int .i64 (ops i).c) ∧ w.cell? ⟨sb, off + i * 7 + 6, none⟩ = some (.string (ops i).s)

theorem Lies.on {ops : Nat → OpR} {len sb off : Nat} {w w' : World} (h : Lies ops len sb off w) (hb : w'.heap[sb]? = w.heap[sb]?) : Lies ops len sb off w' := by
  intro i hi
  have e : ∀ o, w'.cell? ⟨sb, o, none⟩ = w.cell? ⟨sb, o, none⟩ := fun o => World.cell?_of_block (w := w) (a := ⟨sb, o, none⟩) hb
  simp only [e]
  exact h i hi

def sizeTo (ops : Nat → OpR) (len : Nat) : Nat → Nat
  | 0 => len
  | i + 1 => sizeTo ops len i + (ops i).s.size

set_option maxRecDepth 100000 in
set_option maxHeartbeats 400000 in
theorem small_any (ops : Nat → OpR) (len cap sb off : Nat) (w : World) (hl : len ≤ maxLen) (hs : ∀ i, i < len → (ops i).s.size ≤ 140737488355328) (h : Lies ops len sb off w) :
    Calls Tryd.prog 5 #[.slice (some ⟨sb, off, none⟩) len cap] w fun e w' => (e = .returned (.bool true) ∨ e = .returned (.bool false)) ∧ w' = w := by
  unfold maxLen at hl
  by_cases hbig : 1048576 < len
  · clear hs h
    go_enter Tryd.func5, Tryd.ntmps5
    go_wp2
    go_ret
    exact ⟨.inr rfl, rfl⟩
  · have HS := hid hs
    have HL := hid h
    clear hs h
    go_enter Tryd.func5, Tryd.ntmps5
    go_wp2
    go_loop [3, 4] (fun n i => ∃ k m : Nat, k ≤ len ∧ i = .int .i64 k ∧ n = .int .i64 m ∧ m ≤ 1048576) (fun _ i => len - (intOf i).toNat)
    case atStart => exact ⟨0, len, by omega, rfl, rfl, by omega⟩
    case round =>
      obtain ⟨k, m, hk, rfl, rfl, hm⟩ := hrel
      by_cases hlt : k < len
      · obtain ⟨-, -, -, -, -, -, c6⟩ := HL.out k hlt
        have hsz := HS.out k hlt
        by_cases hgt : 1048576 < m + (ops k).s.size
        · go_wp2
          go_ret
          exact ⟨.inr rfl, rfl⟩
        · go_wp2
          go_round
          case rel => exact ⟨k + 1, m + (ops k).s.size, by omega, by go_num, by go_num, by omega⟩
          case measure => simp [intOf]; omega
      · go_wp2
        go_ret
        exact ⟨.inl rfl, rfl⟩

theorem small_nil (w : World) : Calls Tryd.prog 5 #[.slice none 0 0] w fun e w' => e = .returned (.bool true) ∧ w' = w := by
  go_enter Tryd.func5, Tryd.ntmps5
  go_wp2
  refine wp_loop_once ?_
  go_wp2
  go_ret
  exact ⟨rfl, rfl⟩

end Go.Proofs.YtalaldfgjgpacaaDoor

namespace Go.Proofs.YtalaldfgjgpacaaDoor
set_option linter.unusedVariables false
set_option linter.unusedSimpArgs false
open Go.RowKit

/-- Which of n things a raw number speaks of. -/
def pickN (c : Int) (n : Int) : Int := if c < 0 then (-(c + 1)) % n else c % n

theorem pickN_bd (c n : Int) (hn : 0 < n) : 0 ≤ pickN c n ∧ pickN c n < n := by
  unfold pickN
  split
  · exact ⟨Int.emod_nonneg _ (by omega), Int.emod_lt_of_pos _ hn⟩
  · exact ⟨Int.emod_nonneg _ (by omega), Int.emod_lt_of_pos _ hn⟩

set_option maxHeartbeats 400000 in
theorem pick_any (c n : Int) (w : World) (h0 : -9223372036854775808 ≤ c) (h1 : c ≤ 9223372036854775807) (hn : 0 < n) (hn2 : n ≤ 1000) :
    Calls Tryd.prog 7 #[.int .i64 c, .int .i64 n] w fun e w' => e = .returned (.int .i64 (pickN c n)) ∧ w' = w := by
  obtain ⟨r, hr⟩ : ∃ r, r = pickN c n := ⟨_, rfl⟩
  rw [← hr]
  have HR := hid hr
  clear hr
  by_cases hc : c < 0
  · go_enter Tryd.func7, Tryd.ntmps7
    go_wp2
    go_ret
    refine ⟨?_, rfl⟩
    rw [HR.out, pickN, if_pos hc, ← Int.tmod_eq_emod_of_nonneg (by omega), Int.neg_tmod]
    rfl
  · go_enter Tryd.func7, Tryd.ntmps7
    go_wp2
    go_ret
    refine ⟨?_, rfl⟩
    rw [HR.out, pickN, if_neg (by omega)]
    first | rfl | (rw [← Int.tmod_eq_emod_of_nonneg (by omega)]; rfl)

theorem byte_dig (d : Nat) (hd : d < 10) : UInt8.ofNat (48 + d) = dig d := rfl

set_option maxRecDepth 100000 in
set_option maxHeartbeats 400000 in
theorem dec1 (d : Nat) (w : World) (hd : d < 10) : Calls Tryd.prog 14 #[.int .i64 d] w fun e w' => e = .returned (.string ⟨#[dig d]⟩) ∧ Blw w w' := by
  have hcv := conv1
  have : d = 0 ∨ d = 1 ∨ d = 2 ∨ d = 3 ∨ d = 4 ∨ d = 5 ∨ d = 6 ∨ d = 7 ∨ d = 8 ∨ d = 9 := by omega
  rcases this with rfl | rfl | rfl | rfl | rfl | rfl | rfl | rfl | rfl | rfl
  all_goals
    go_enter Tryd.func14, Tryd.ntmps14
    go_wp2
    go_ret
    exact ⟨rfl, (Blw.rfl _).al _⟩

/-- Digits of a greater number, one call deeper. -/
theorem decDigits_step (d : Nat) (hd : 10 ≤ d) : Lib.decDigits d = Lib.decDigits (d / 10) ++ [dig (d % 10)] := by
  rw [Lib.decDigits, dif_neg (by omega)]; rfl

theorem conv_dig (x : Int) (d : Nat) (hd : d < 10) (hx : x = 48 + (d : Int)) (w : World) : (convert 74 9 (.slice (some ⟨w.heap.size, 0, none⟩) 1 1)).run Tryd.prog (w.alloc (.cells #[.int .u8 x] 5)) = .ok (.string ⟨#[dig d]⟩) (w.alloc (.cells #[.int .u8 x] 5)) := by
  subst hx
  rw [conv1]
  have : (48 + (d : Int)).toNat = 48 + d := by omega
  rw [this]; rfl

set_option maxRecDepth 100000 in
set_option maxHeartbeats 400000 in
theorem dec_step (d : Nat) (w : World) (hd : 10 ≤ d) (hd2 : d < 10000) (hrec : ∀ wx, Calls Tryd.prog 14 #[.int .i64 ((d : Int) / 10)] wx fun e w' => e = .returned (.string ⟨(Lib.decDigits (d / 10)).toArray⟩) ∧ Blw wx w') :
    Calls Tryd.prog 14 #[.int .i64 d] w fun e w' => e = .returned (.string ⟨(Lib.decDigits d).toArray⟩) ∧ Blw w w' := by
  have hlen : (Lib.decDigits (d / 10)).length ≤ 4 := by
    have : d / 10 < 10 ^ (3 + 1) := by omega
    exact dd_len 3 (d / 10) this
  have HREC := hid hrec
  have HDD := hid (decDigits_step d hd)
  generalize Lib.decDigits d = ld at *
  generalize Lib.decDigits (d / 10) = lq at *
  have hcv := fun (x : Int) (hx : x = 48 + ((d % 10 : Nat) : Int)) (wx : World) => conv_dig x (d % 10) (by omega) hx wx
  have hc1 := hcv (48 + (d : Int) % 10) (by omega)
  clear hcv hrec
  go_enter Tryd.func14, Tryd.ntmps14
  go_wp2_with fail
  refine (HREC.out _).mono ?_
  rintro e w1 ⟨rfl, b1⟩
  go_wp2
  go_ret
  exact ⟨ret_str (by rw [HDD.out]; exact bytes_app lq [dig (d % 10)]), ((Blw.rfl _).al _).tr b1⟩

theorem dec_any : ∀ (f d : Nat) (w : World), d < 10000 → d < 10 ^ (f + 1) → Calls Tryd.prog 14 #[.int .i64 d] w fun e w' => e = .returned (.string ⟨(Lib.decDigits d).toArray⟩) ∧ Blw w w' := by
  intro f
  induction f with
  | zero =>
    intro d w h1 h2
    have hd : d < 10 := by simpa using h2
    rw [Lib.decDigits, dif_pos hd]
    exact dec1 d w hd
  | succ f ih =>
    intro d w h1 h2
    by_cases hd : d < 10
    · rw [Lib.decDigits, dif_pos hd]
      exact dec1 d w hd
    · refine dec_step d w (by omega) h1 fun wx => ?_
      have h3 : d / 10 < 10 ^ (f + 1) := by
        rw [Nat.div_lt_iff_lt_mul (by decide)]
        rw [Nat.pow_succ] at h2; exact h2
      have := ih (d / 10) wx (by omega) h3
      rwa [show (((d / 10 : Nat)) : Int) = (d : Int) / 10 from by omega] at this

set_option maxRecDepth 100000 in
set_option maxHeartbeats 400000 in
theorem decimal_any (z : Int) (w : World) (h0 : -9999 ≤ z) (h1 : z ≤ 9999) : Calls Tryd.prog 14 #[.int .i64 z] w fun e w' => e = .returned (.string ⟨(Lib.itoa z).toArray⟩) ∧ Blw w w' := by
  by_cases hz : z < 0
  · have HR := hid (dec_any 3 z.natAbs w (by omega) (by omega))
    have hl : (Lib.decDigits z.natAbs).length ≤ 4 := dd_len 3 _ (by omega)
    have HI : Hid (Lib.itoa z = 45 :: Lib.decDigits z.natAbs) := by show Lib.itoa z = _; rw [Lib.itoa, if_pos hz]
    generalize Lib.itoa z = li at *
    rw [show ((z.natAbs : Nat) : Int) = -z from by omega] at HR
    generalize Lib.decDigits z.natAbs = ld at *
    go_enter Tryd.func14, Tryd.ntmps14
    go_wp2_with fail
    refine HR.out.mono ?_
    rintro e w1 ⟨rfl, b1⟩
    go_wp2
    go_ret
    exact ⟨ret_str (by rw [HI.out]; exact bytes_app [45] ld), b1⟩
  · obtain ⟨d, rfl⟩ := Int.eq_ofNat_of_zero_le (show 0 ≤ z by omega)
    have := dec_any 3 d w (by omega) (by omega)
    rw [Lib.itoa, if_neg hz]
    exact this

/-- The tables of Alone. -/
def boolArr (th : Nat → Bool) : Array Value := ((List.range 12).map fun k => Value.bool (th k)).toArray
def intArr (hv : Nat → Int) : Array Value := ((List.range 12).map fun k => Value.int .i64 (hv k)).toArray
theorem boolArr_at (th : Nat → Bool) (k : Nat) (hk : k < 12) : (boolArr th)[k]? = some (.bool (th k)) := by simp [boolArr, hk]
theorem intArr_at (hv : Nat → Int) (k : Nat) (hk : k < 12) : (intArr hv)[k]? = some (.int .i64 (hv k)) := by simp [intArr, hk]

def listTo (th : Nat → Bool) (hv : Nat → Int) (c : Nat) : Nat → List UInt8
  | 0 => []
  | k + 1 => if th (c * 4 + k) then (if (listTo th hv c k).isEmpty then [] else listTo th hv c k ++ [44]) ++ [itemB k] ++ Lib.itoa (hv (c * 4 + k)) else listTo th hv c k

theorem listTo_len (th : Nat → Bool) (hv : Nat → Int) (c : Nat) (hb : ∀ k, -9999 ≤ hv k ∧ hv k ≤ 9999) (k : Nat) : (listTo th hv c k).length ≤ 7 * k := by
  induction k with
  | zero => simp [listTo]
  | succ k ih =>
    have hl := itoa_len (hv (c * 4 + k)) (hb _).1 (hb _).2
    simp only [listTo]
    split
    · split <;> simp <;> omega
    · omega

theorem conv_item (x : Int) (k : Nat) (hx : x = 65 + (k : Int)) (w : World) : (convert 74 9 (.slice (some ⟨w.heap.size, 0, none⟩) 1 1)).run Tryd.prog (w.alloc (.cells #[.int .u8 x] 5)) = .ok (.string ⟨#[itemB k]⟩) (w.alloc (.cells #[.int .u8 x] 5)) := by
  subst hx
  rw [conv1]
  have : (65 + (k : Int)).toNat = 65 + k := by omega
  rw [this]; rfl

set_option maxRecDepth 100000 in
set_option maxHeartbeats 1000000 in
theorem listed_any (th : Nat → Bool) (hv : Nat → Int) (tb hb c : Nat) (w : World) (hc : c < 3) (hbd : ∀ k, -9999 ≤ hv k ∧ hv k ≤ 9999) (h1 : w.heap[tb]? = some (.cells (boolArr th) 4)) (h2 : w.heap[hb]? = some (.cells (intArr hv) 3)) :
    Calls Tryd.prog 13 #[.slice (some ⟨tb, 0, none⟩) 12 12, .slice (some ⟨hb, 0, none⟩) 12 12, .int .i64 c] w fun e w' => e = .returned (.string ⟨(listTo th hv c 4).toArray⟩) ∧ Blw w w' := by
  have H1 := hid h1
  have H2 := hid h2
  have HB := hid hbd
  clear h1 h2 hbd
  go_enter Tryd.func13, Tryd.ntmps13
  go_wp2
  go_loopw [7, 8] (fun s i wr => ∃ k : Nat, k ≤ 4 ∧ i = .int .i64 k ∧ s = .string ⟨(listTo th hv c k).toArray⟩ ∧ Blw w wr) (fun _ i _ => 4 - (intOf i).toNat)
  case atStart => exact ⟨0, by omega, rfl, rfl, Blw.rfl _⟩
  case round =>
    obtain ⟨k, hk, rfl, rfl, hb'⟩ := hrel
    have B := hid hb'
    by_cases hlt : k < 4
    · have g1 : wr.cell? ⟨tb, c * 4 + k, none⟩ = some (.bool (th (c * 4 + k))) := by rw [blk_cell (hb'.bk' H1.out), boolArr_at _ _ (by omega)]
      have g2 : wr.cell? ⟨hb, c * 4 + k, none⟩ = some (.int .i64 (hv (c * 4 + k))) := by rw [blk_cell (hb'.bk' H2.out), intArr_at _ _ (by omega)]
      have hln := listTo_len th hv c HB.out k
      have HX : Hid (listTo th hv c (k + 1) = if th (c * 4 + k) then (if (listTo th hv c k).isEmpty then [] else listTo th hv c k ++ [44]) ++ [itemB k] ++ Lib.itoa (hv (c * 4 + k)) else listTo th hv c k) := rfl
      have HI := hid (fun wx => decimal_any (hv (c * 4 + k)) wx (HB.out _).1 (HB.out _).2)
      have hil := itoa_len (hv (c * 4 + k)) (HB.out _).1 (HB.out _).2
      generalize listTo th hv c k = tx at *
      generalize hv (c * 4 + k) = hz at *
      generalize Lib.itoa hz = il at *
      generalize hth : th (c * 4 + k) = tk at *
      clear hb' hth
      have hix : (0 : Int) ≤ (c : Int) * 4 + (k : Int) := by omega
      have hix2 : (c : Int) * 4 + (k : Int) < 12 := by omega
      have hnn : ((c : Int) * 4 + (k : Int)).toNat = c * 4 + k := by omega
      cases tk
      · go_wp2
        go_roundw
        case rel => exact ⟨k + 1, by omega, by go_num, by rw [HX.out]; rfl, B.out⟩
        case measure => simp [intOf]; omega
      · cases he : tx.isEmpty
        · have HE := hid he
          have hci := conv_item (65 + (k : Int)) k rfl
          go_wp2_with fail
          refine (HI.out _).mono ?_
          rintro e w2 ⟨rfl, b2⟩
          have B2 := hid (B.out.tr b2)
          clear b2 g1 g2
          go_wp2
          go_roundw
          case rel => exact ⟨k + 1, by omega, by go_num, by rw [HX.out, HE.out]; simp [bytes_app], B2.out.al _⟩
          case measure => simp [intOf]; omega
        · have HE := hid he
          have he2 : tx = [] := by simpa using he
          subst he2
          clear he
          have hci := conv_item (65 + (k : Int)) k rfl
          go_wp2_with fail
          refine (HI.out _).mono ?_
          rintro e w2 ⟨rfl, b2⟩
          have B2 := hid (B.out.tr b2)
          clear b2 g1 g2
          go_wp2
          go_roundw
          case rel => exact ⟨k + 1, by omega, by go_num, by rw [HX.out]; simp [bytes_app], B2.out.al _⟩
          case measure => simp [intOf]; omega
    · have hk4 : k = 4 := by omega
      subst hk4
      go_wp2
      go_ret
      exact ⟨rfl, B.out⟩
end Go.Proofs.YtalaldfgjgpacaaDoor
