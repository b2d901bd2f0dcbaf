import Derived.Test.YtkeanpabacfdlaaGreatDoorQ3
import Derived.Test.YtkeanpabacfdlaaGreatDoorW4
namespace Go.Proofs.YtkeanpabacfdlaaGreatDoor
set_option linter.unusedVariables false
set_option linter.unusedSimpArgs false
open Go.RowKit

theorem conv_dig (x : Int) (d : Nat) (hd : d < 10) (hx : x = 48 + (d : Int)) (w : World) : (convert 113 9 (.slice (some ⟨w.heap.size, 0, none⟩) 1 1)).run Tryz.prog (w.alloc (.cells #[.int .u8 x] 5)) = .ok (.string ⟨#[dig d]⟩) (w.alloc (.cells #[.int .u8 x] 5)) := by
  subst hx
  rw [conv1]
  have : (48 + (d : Int)).toNat = 48 + d := by omega
  rw [this]; rfl

/-- The last digits of a number. -/
def lastD (n : Nat) : Nat → Bs
  | 0 => []
  | k + 1 => dig (n / 10 ^ k % 10) :: lastD n k
theorem lastD_len (n k : Nat) : (lastD n k).length = k := by
  induction k with
  | zero => rfl
  | succ k ih => simp [lastD, ih]

set_option maxRecDepth 100000 in
set_option maxHeartbeats 1000000 in
theorem digits_any (d wd : Nat) (w : World) (hd : d < 100000) (hw : wd ≤ 9) :
    Calls Tryz.prog 82 #[.int .i64 d, .int .i64 wd] w fun e w' => e = .returned (.string ⟨(lastD d wd).toArray⟩) ∧ Blw w w' := by
  go_enter Tryz.func82, Tryz.ntmps82
  go_wp2
  go_loopw [0, 5, 6] (fun nn s i wr => ∃ k : Nat, k ≤ wd ∧ i = .int .i64 k ∧ nn = .int .i64 ((d / 10 ^ k : Nat) : Int) ∧ s = .string ⟨(lastD d k).toArray⟩ ∧ Blw w wr) (fun _ _ i _ => wd - (intOf i).toNat)
  case atStart => exact ⟨0, by omega, rfl, by simp, rfl, Blw.rfl _⟩
  case round =>
    obtain ⟨k, hk, rfl, rfl, rfl, hb⟩ := hrel
    have H := hid hb
    clear hb
    have hln := lastD_len d k
    have hle : d / 10 ^ k ≤ d := Nat.div_le_self _ _
    have HS : Hid (lastD d (k + 1) = dig (d / 10 ^ k % 10) :: lastD d k) := rfl
    have HP : Hid (d / 10 ^ (k + 1) = d / 10 ^ k / 10) := by show d / 10 ^ (k + 1) = _; rw [Nat.pow_succ, Nat.div_div_eq_div_mul]
    by_cases hlt : k < wd
    · generalize lastD d k = z at *
      generalize d / 10 ^ k = m at *
      have hcv := conv_dig (48 + (m : Int) % 10) (m % 10) (by omega) (by omega)
      go_wp2
      go_roundw
      case rel => exact ⟨k + 1, by omega, by go_num, by rw [HP.out]; go_num, by rw [HS.out]; exact congrArg Value.string (ByteArray.mk_append_mk [dig (m % 10)] z), H.out.al _⟩
      case measure => simp [intOf]; omega
    · have hkn : k = wd := by omega
      have HK : Hid (lastD d wd = lastD d k) := by rw [hkn]; exact rfl
      clear hkn HS
      generalize lastD d k = z at *
      go_wp2
      go_ret
      exact ⟨by rw [HK.out]; rfl, H.out⟩

set_option maxHeartbeats 400000 in
theorem isDigit_any (c : UInt8) (w : World) :
    Calls Tryz.prog 92 #[.int .u8 c.toNat] w fun e w' => e = .returned (.bool (isDigB c)) ∧ w' = w := by
  have HB : Hid (isDigB c = decide (48 ≤ (c.toNat : Int) ∧ (c.toNat : Int) ≤ 57)) := by
    show isDigB c = _
    unfold isDigB
    rw [Bool.eq_iff_iff]; simp [UInt8.le_iff_toNat_le]; omega
  generalize c.toNat = n at *
  by_cases h1 : (48 : Int) ≤ (n : Int)
  · by_cases h2 : (n : Int) ≤ 57
    · have HT : Hid (isDigB c = true) := by rw [HB.out]; simp; exact ⟨by omega, by omega⟩
      have d1 : decide ((48 : Int) ≤ (n : Int)) = true := by simpa using h1
      have d2 : decide ((n : Int) ≤ 57) = true := by simpa using h2
      go_enter Tryz.func92, Tryz.ntmps92
      go_wp2
      go_ret
      exact ⟨by rw [HT.out]; rfl, rfl⟩
    · have HT : Hid (isDigB c = false) := by show isDigB c = false; rw [HB.out]; simp; omega
      have d1 : decide ((48 : Int) ≤ (n : Int)) = true := by simpa using h1
      have d2 : decide ((n : Int) ≤ 57) = false := by simpa using h2
      go_enter Tryz.func92, Tryz.ntmps92
      go_wp2
      go_ret
      exact ⟨by rw [HT.out]; rfl, rfl⟩
  · have HT : Hid (isDigB c = false) := by show isDigB c = false; rw [HB.out]; simp; omega
    have d1 : decide ((48 : Int) ≤ (n : Int)) = false := by simpa using h1
    go_enter Tryz.func92, Tryz.ntmps92
    go_wp2
    go_ret
    exact ⟨by rw [HT.out]; rfl, rfl⟩

/-- The document's replica in memory. -/
def refArr (me n : Nat) (a b : Value) (had : Nat) (lt ac : Value) (dk : Bs) : Array Value := #[.int .i64 me, .int .i64 n, a, b, .int .i64 had, lt, ac, .string ⟨dk.toArray⟩]

theorem known_succ (D : List Bs) (r : Int) (k : Nat) (hk : k < D.length) (c0 c1 : UInt8) (h : D.getD k [] = [c0, c1]) : knownL (D.take (k + 1)) r = knownL (D.take k) r + (if (c0.toNat : Int) - 48 = r then 1 else 0) := by
  rw [list_app_idx D k [] hk, h]
  simp [knownL, List.countP_append, List.countP_cons]

theorem mem_getD (D : List Bs) (k : Nat) (hk : k < D.length) : D.getD k [] ∈ D := by
  rw [List.getD_eq_getElem?_getD, List.getElem?_eq_getElem hk]; exact List.getElem_mem hk

theorem known_le (D : List Bs) (r : Int) (k : Nat) : knownL (D.take k) r ≤ k := by
  unfold knownL
  have := List.countP_le_length (p := fun d : Bs => decide (((d.getD 0 0).toNat : Int) - 48 = r)) (l := D.take k)
  rw [List.length_take] at this; omega

set_option maxRecDepth 100000 in
set_option maxHeartbeats 1000000 in
theorem known_any (cb me n : Nat) (a b : Value) (had : Nat) (lt ac : Value) (dk : Bs) (D E : List Bs) (r : Int) (w : World) (h : w.heap[cb]? = some (.cells (refArr me n a b had lt ac dk) 104)) (hP : PcAt w a b D E) :
    Calls Tryz.prog 106 #[.pointer (some ⟨cb, 0, none⟩), .int .i64 r] w fun e w' => e = .returned (.int .i64 (knownL D r)) ∧ w' = w := by
  obtain ⟨ao, ca, rfl, oa⟩ := hP.d.op
  have OA := hid oa
  have D2 := hid hP.d2
  have ld := hP.dl
  have c2 : w.cell? ⟨cb, 2, none⟩ = some (.slice ao D.length ca) := blk_cell h 2
  clear oa hP h
  go_enter Tryz.func106, Tryz.ntmps106
  go_wp2
  go_loop [5, 6] (fun s i => ∃ k : Nat, k ≤ D.length ∧ i = .int .i64 k ∧ s = .int .i64 ((knownL (D.take k) r : Nat) : Int)) (fun _ i => D.length - (intOf i).toNat)
  case atStart => exact ⟨0, by omega, rfl, by simp [knownL]⟩
  case round =>
    obtain ⟨k, hk, rfl, rfl⟩ := hrel
    have hkl := known_le D r k
    by_cases hlt : k < D.length
    · obtain ⟨g, rfl, hg, hc⟩ := OA.out (by omega)
      obtain ⟨c0, c1, hx, h48⟩ := D2.out _ (mem_getD D k hlt)
      have hck := hc k hlt
      rw [hx] at hck
      unfold strV at hck
      have HS := hid (known_succ D r k hlt c0 c1 hx)
      have h256 : c0.toNat < 256 := c0.toNat_lt
      obtain ⟨y, hy, hyc⟩ : ∃ y : ByteArray, y = ⟨[c0, c1].toArray⟩ ∧ ∃ hz : 0 < y.size, y[0]'hz = c0 := ⟨_, rfl, (show 0 < 2 by decide), rfl⟩
      obtain ⟨hz, hyc⟩ := hyc
      have hy2 : y.size = 2 := by rw [hy]; rfl
      rw [← hy] at hck
      rw [← hyc] at HS h48 h256
      have h48' : (48 : Int) ≤ ((y[0]'hz).toNat : Int) := by omega
      have h256' : ((y[0]'hz).toNat : Int) < 256 := by omega
      clear hc hx hy hyc h48 h256
      generalize knownL (D.take k) r = q at *
      by_cases hr : ((y[0]'hz).toNat : Int) - 48 = r
      · have hr' : (((y[0]'hz).toNat : Int) - 48 == r) = true := by simpa using hr
        rw [if_pos hr] at HS
        clear hr
        go_wp2
        go_round
        case rel => exact ⟨k + 1, by omega, by go_num, by rw [HS.out]; go_num⟩
        case measure => simp [intOf]; omega
      · have hr' : (((y[0]'hz).toNat : Int) - 48 == r) = false := by simpa using hr
        rw [if_neg hr] at HS
        clear hr
        go_wp2
        go_round
        case rel => exact ⟨k + 1, by omega, by go_num, by rw [HS.out]; go_num⟩
        case measure => simp [intOf]; omega
    · have hkn : k = D.length := by omega
      have HK : Hid (knownL (D.take k) r = knownL D r) := by show knownL (D.take k) r = _; rw [hkn, List.take_length]
      generalize knownL (D.take k) r = q at *
      subst hkn
      go_wp2
      go_ret
      exact ⟨by rw [← HK.out]; rfl, rfl⟩
end Go.Proofs.YtkeanpabacfdlaaGreatDoor
