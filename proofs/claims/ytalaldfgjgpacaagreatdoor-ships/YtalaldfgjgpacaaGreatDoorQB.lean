import Derived.Test.YtalaldfgjgpacaaGreatDoorQA
import Derived.Test.YtalaldfgjgpacaaGreatDoorWC
namespace Go.Proofs.YtalaldfgjgpacaaGreatDoor
set_option linter.unusedVariables false
set_option linter.unusedSimpArgs false
open Go.RowKit

theorem conv_dig (x : Int) (d : Nat) (hd : d < 10) (hx : x = 48 + (d : Int)) (w : World) : (convert 131 9 (.slice (some ⟨w.heap.size, 0, none⟩) 1 1)).run Tryz.prog (w.alloc (.cells #[.int .u8 x] 5)) = .ok (.string ⟨#[dig d]⟩) (w.alloc (.cells #[.int .u8 x] 5)) := by
  subst hx
  rw [conv1]
  have : (48 + (d : Int)).toNat = 48 + d := by omega
  rw [this]; rfl

/-- The last digits of a number. -/
def lastD (n : Nat) : Nat → Bs
  | 0 => []
  | k + 1 => dig (n / 10 ^ k % 10) :: lastD n k
theorem lastD_len (n k : Nat) : (lastD n k).length = k := by
  induction k with
  | zero => rfl
  | succ k ih => simp [lastD, ih]

set_option maxRecDepth 100000 in
set_option maxHeartbeats 1000000 in
theorem digits_any (d wd : Nat) (w : World) (hd : d < 100000) (hw : wd ≤ 9) :
    Calls Tryz.prog 106 #[.int .i64 d, .int .i64 wd] w fun e w' => e = .returned (.string ⟨(lastD d wd).toArray⟩) ∧ Blw w w' := by
  go_enter Tryz.func106, Tryz.ntmps106
  go_wp2
  go_loopw [0, 5, 6] (fun nn s i wr => ∃ k : Nat, k ≤ wd ∧ i = .int .i64 k ∧ nn = .int .i64 ((d / 10 ^ k : Nat) : Int) ∧ s = .string ⟨(lastD d k).toArray⟩ ∧ Blw w wr) (fun _ _ i _ => wd - (intOf i).toNat)
  case atStart => exact ⟨0, by omega, rfl, by simp, rfl, Blw.rfl _⟩
  case round =>
    obtain ⟨k, hk, rfl, rfl, rfl, hb⟩ := hrel
    have H := hid hb
    clear hb
    have hln := lastD_len d k
    have hle : d / 10 ^ k ≤ d := Nat.div_le_self _ _
    have HS : Hid (lastD d (k + 1) = dig (d / 10 ^ k % 10) :: lastD d k) := rfl
    have HP : Hid (d / 10 ^ (k + 1) = d / 10 ^ k / 10) := by show d / 10 ^ (k + 1) = _; rw [Nat.pow_succ, Nat.div_div_eq_div_mul]
    by_cases hlt : k < wd
    · generalize lastD d k = z at *
      generalize d / 10 ^ k = m at *
      have hcv := conv_dig (48 + (m : Int) % 10) (m % 10) (by omega) (by omega)
      go_wp2
      go_roundw
      case rel => exact ⟨k + 1, by omega, by go_num, by rw [HP.out]; go_num, by rw [HS.out]; exact congrArg Value.string (ByteArray.mk_append_mk [dig (m % 10)] z), H.out.al _⟩
      case measure => simp [intOf]; omega
    · have hkn : k = wd := by omega
      have HK : Hid (lastD d wd = lastD d k) := by rw [hkn]; exact rfl
      clear hkn HS
      generalize lastD d k = z at *
      go_wp2
      go_ret
      exact ⟨by rw [HK.out]; rfl, H.out⟩

set_option maxHeartbeats 400000 in
theorem isDigit_any (c : UInt8) (w : World) :
    Calls Tryz.prog 118 #[.int .u8 c.toNat] w fun e w' => e = .returned (.bool (isDigB c)) ∧ w' = w := by
  have HB : Hid (isDigB c = decide (48 ≤ (c.toNat : Int) ∧ (c.toNat : Int) ≤ 57)) := by
    show isDigB c = _
    unfold isDigB
    rw [Bool.eq_iff_iff]; simp [UInt8.le_iff_toNat_le]; omega
  generalize c.toNat = n at *
  by_cases h1 : (48 : Int) ≤ (n : Int)
  · by_cases h2 : (n : Int) ≤ 57
    · have HT : Hid (isDigB c = true) := by rw [HB.out]; simp; exact ⟨by omega, by omega⟩
      have d1 : decide ((48 : Int) ≤ (n : Int)) = true := by simpa using h1
      have d2 : decide ((n : Int) ≤ 57) = true := by simpa using h2
      go_enter Tryz.func118, Tryz.ntmps118
      go_wp2
      go_ret
      exact ⟨by rw [HT.out]; rfl, rfl⟩
    · have HT : Hid (isDigB c = false) := by show isDigB c = false; rw [HB.out]; simp; omega
      have d1 : decide ((48 : Int) ≤ (n : Int)) = true := by simpa using h1
      have d2 : decide ((n : Int) ≤ 57) = false := by simpa using h2
      go_enter Tryz.func118, Tryz.ntmps118
      go_wp2
      go_ret
      exact ⟨by rw [HT.out]; rfl, rfl⟩
  · have HT : Hid (isDigB c = false) := by show isDigB c = false; rw [HB.out]; simp; omega
    have d1 : decide ((48 : Int) ≤ (n : Int)) = false := by simpa using h1
    go_enter Tryz.func118, Tryz.ntmps118
    go_wp2
    go_ret
    exact ⟨by rw [HT.out]; rfl, rfl⟩

/-- The document's replica in memory. -/
def refArr (me n : Nat) (a b : Value) (had : Nat) (lt ac : Value) (dk : Bs) : Array Value := #[.int .i64 me, .int .i64 n, a, b, .int .i64 had, lt, ac, .string ⟨dk.toArray⟩]

theorem known_succ (D : List Bs) (r : Int) (k : Nat) (hk : k < D.length) (c0 c1 : UInt8) (h : D.getD k [] = [c0, c1]) : knownL (D.take (k + 1)) r = knownL (D.take k) r + (if (c0.toNat : Int) - 48 = r then 1 else 0) := by
  rw [list_app_idx D k [] hk, h]
  simp [knownL, List.countP_append, List.countP_cons]

theorem mem_getD (D : List Bs) (k : Nat) (hk : k < D.length) : D.getD k [] ∈ D := by
  rw [List.getD_eq_getElem?_getD, List.getElem?_eq_getElem hk]; exact List.getElem_mem hk

theorem known_le (D : List Bs) (r : Int) (k : Nat) : knownL (D.take k) r ≤ k := by
  unfold knownL
  have := List.countP_le_length (p := fun d : Bs => decide (((d.getD 0 0).toNat : Int) - 48 = r)) (l := D.take k)
  rw [List.length_take] at this; omega

set_option maxRecDepth 100000 in
set_option maxHeartbeats 1000000 in
theorem known_any (cb me n : Nat) (a b : Value) (had : Nat) (lt ac : Value) (dk : Bs) (D E : List Bs) (r : Int) (w : World) (h : w.heap[cb]? = some (.cells (refArr me n a b had lt ac dk) 123)) (hP : PcAt w a b D E) :
    Calls Tryz.prog 140 #[.pointer (some ⟨cb, 0, none⟩), .int .i64 r] w fun e w' => e = .returned (.int .i64 (knownL D r)) ∧ w' = w := by
  obtain ⟨ao, ca, rfl, oa⟩ := hP.d.op
  have OA := hid oa
  have D2 := hid hP.d2
  have ld := hP.dl
  have c2 : w.cell? ⟨cb, 2, none⟩ = some (.slice ao D.length ca) := blk_cell h 2
  clear oa hP h
  go_enter Tryz.func140, Tryz.ntmps140
  go_wp2
  go_loop [5, 6] (fun s i => ∃ k : Nat, k ≤ D.length ∧ i = .int .i64 k ∧ s = .int .i64 ((knownL (D.take k) r : Nat) : Int)) (fun _ i => D.length - (intOf i).toNat)
  case atStart => exact ⟨0, by omega, rfl, by simp [knownL]⟩
  case round =>
    obtain ⟨k, hk, rfl, rfl⟩ := hrel
    have hkl := known_le D r k
    by_cases hlt : k < D.length
    · obtain ⟨g, rfl, hg, hc⟩ := OA.out (by omega)
      obtain ⟨c0, c1, hx, h48⟩ := D2.out _ (mem_getD D k hlt)
      have hck := hc k hlt
      rw [hx] at hck
      unfold strV at hck
      have HS := hid (known_succ D r k hlt c0 c1 hx)
      have h256 : c0.toNat < 256 := c0.toNat_lt
      obtain ⟨y, hy, hyc⟩ : ∃ y : ByteArray, y = ⟨[c0, c1].toArray⟩ ∧ ∃ hz : 0 < y.size, y[0]'hz = c0 := ⟨_, rfl, (show 0 < 2 by decide), rfl⟩
      obtain ⟨hz, hyc⟩ := hyc
      have hy2 : y.size = 2 := by rw [hy]; rfl
      rw [← hy] at hck
      rw [← hyc] at HS h48 h256
      have h48' : (48 : Int) ≤ ((y[0]'hz).toNat : Int) := by omega
      have h256' : ((y[0]'hz).toNat : Int) < 256 := by omega
      clear hc hx hy hyc h48 h256
      generalize knownL (D.take k) r = q at *
      by_cases hr : ((y[0]'hz).toNat : Int) - 48 = r
      · have hr' : (((y[0]'hz).toNat : Int) - 48 == r) = true := by simpa using hr
        rw [if_pos hr] at HS
        clear hr
        go_wp2
        go_round
        case rel => exact ⟨k + 1, by omega, by go_num, by rw [HS.out]; go_num⟩
        case measure => simp [intOf]; omega
      · have hr' : (((y[0]'hz).toNat : Int) - 48 == r) = false := by simpa using hr
        rw [if_neg hr] at HS
        clear hr
        go_wp2
        go_round
        case rel => exact ⟨k + 1, by omega, by go_num, by rw [HS.out]; go_num⟩
        case measure => simp [intOf]; omega
    · have hkn : k = D.length := by omega
      have HK : Hid (knownL (D.take k) r = knownL D r) := by show knownL (D.take k) r = _; rw [hkn, List.take_length]
      generalize knownL (D.take k) r = q at *
      subst hkn
      go_wp2
      go_ret
      exact ⟨by rw [← HK.out]; rfl, rfl⟩
end Go.Proofs.YtalaldfgjgpacaaGreatDoor

namespace Go.Proofs.YtalaldfgjgpacaaGreatDoor
set_option linter.unusedVariables false
set_option linter.unusedSimpArgs false
open Go.RowKit

theorem digsIn_no (l : Bs) (k : Nat) (hk : k < l.length) (h : isDigB (l.getD k 0) = false) : l.all isDigB = false := by
  rw [List.all_eq_false]
  refine ⟨l.getD k 0, ?_, by rw [h]; exact Bool.false_ne_true⟩
  rw [List.getD_eq_getElem?_getD, List.getElem?_eq_getElem hk]; exact List.getElem_mem hk

theorem byte_at (l : Bs) (k : Nat) (hk : k < (ByteArray.mk l.toArray).size) : (ByteArray.mk l.toArray)[k]'hk = l.getD k 0 := by
  have hk' : k < l.length := by rw [bs_size] at hk; exact hk
  simp [List.getD, List.getElem?_eq_getElem hk']
  rfl

set_option maxHeartbeats 1000000 in
theorem all_any (l : Bs) (w : World) (hl : l.length ≤ 2000000) :
    Calls Tryz.prog 85 #[strV l] w fun e w' => e = .returned (.bool (l.all isDigB)) ∧ w' = w := by
  obtain ⟨s, hs⟩ : ∃ s : ByteArray, s = ⟨l.toArray⟩ := ⟨_, rfl⟩
  have hsz : s.size = l.length := by rw [hs, bs_size]
  have HB : Hid (∀ k (hk : k < s.size), s[k]'hk = l.getD k 0) := by
    show ∀ k (hk : k < s.size), s[k]'hk = l.getD k 0
    subst hs; exact byte_at l
  have HD := hid (digsIn_all l)
  have HN := hid (digsIn_no l)
  obtain ⟨t, ht⟩ : ∃ t, t = l.all isDigB := ⟨_, rfl⟩
  rw [← ht]
  have HT := hid ht
  have hl' : s.size ≤ 2000000 := by omega
  unfold strV
  rw [← hs]
  have HZ := hid hsz
  clear hs ht hsz hl
  go_enter Tryz.func85, Tryz.ntmps85
  go_wp2
  go_loop [3] (fun i => ∃ k : Nat, k ≤ s.size ∧ i = .int .i64 k ∧ digsIn l k = true) (fun i => s.size - (intOf i).toNat)
  case atStart => exact ⟨0, by omega, rfl, rfl⟩
  case round =>
    obtain ⟨k, hk, rfl, hdg⟩ := hrel
    have HDG := hid hdg
    clear hdg
    by_cases hlt : k < s.size
    · have HE := hid (HB.out k hlt)
      go_wp2_with fail
      refine (isDigit_any (s[k]) _).mono ?_
      rintro e w1 ⟨rfl, rfl⟩
      cases hd : isDigB s[k]
      · have HF : Hid (t = false) := by
          show t = false
          rw [HT.out]; exact HN.out k (by have := HZ.out; omega) (by rw [← HE.out]; exact hd)
        go_wp2
        go_ret
        exact ⟨by rw [HF.out]; rfl, rfl⟩
      · have HG : Hid (digsIn l (k + 1) = true) := by
          show digsIn l (k + 1) = true
          rw [digsIn, HDG.out, ← HE.out, hd]; rfl
        go_wp2
        go_round
        case rel => exact ⟨k + 1, by omega, by go_num, HG.out⟩
        case measure => simp [intOf]; omega
    · have hkn : k = s.size := by omega
      have HF : Hid (t = true) := by
        show t = true
        have h1 := HDG.out
        rw [hkn, HZ.out, HD.out _ (Nat.le_refl _), List.take_length] at h1
        rw [HT.out, h1]
      subst hkn
      go_wp2
      go_ret
      exact ⟨by rw [HF.out]; rfl, rfl⟩

/-- The digits of State, by the lists. -/
def tokL (D : List Bs) : Nat → Bs
  | 0 => []
  | k + 1 => tokL D k ++ [dig (knownL D (k : Int) % 10)]
theorem tokL_len (D : List Bs) (k : Nat) : (tokL D k).length = k := by
  induction k with
  | zero => rfl
  | succ k ih => simp [tokL, ih]

theorem knownL_le (D : List Bs) (r : Int) : knownL D r ≤ D.length := List.countP_le_length

theorem ref_n {w : World} {cb me n : Nat} {a b : Value} {had : Nat} {lt ac : Value} {dk : Bs} {t : TypeId} (h : w.heap[cb]? = some (.cells (refArr me n a b had lt ac dk) t)) :
    w.cell? ⟨cb, 0, none⟩ = some (.int .i64 me) ∧ w.cell? ⟨cb, 1, none⟩ = some (.int .i64 n) ∧ w.cell? ⟨cb, 2, none⟩ = some a ∧ w.cell? ⟨cb, 3, none⟩ = some b ∧ w.cell? ⟨cb, 4, none⟩ = some (.int .i64 had) ∧ w.cell? ⟨cb, 5, none⟩ = some lt ∧ w.cell? ⟨cb, 6, none⟩ = some ac ∧ w.cell? ⟨cb, 7, none⟩ = some (.string ⟨dk.toArray⟩) :=
  ⟨blk_cell h 0, blk_cell h 1, blk_cell h 2, blk_cell h 3, blk_cell h 4, blk_cell h 5, blk_cell h 6, blk_cell h 7⟩

theorem Blw.bq {a w : World} (h : Blw a w) {b : Nat} {o : Obj} (hb : a.heap[b]? = some o) : w.heap[b]? = some o := (h.bk b (lt_of_blk hb)).trans hb

set_option maxRecDepth 100000 in
set_option maxHeartbeats 1000000 in
theorem rtoken_any (cb me n : Nat) (a b : Value) (had : Nat) (lt ac : Value) (dk : Bs) (D E : List Bs) (w : World) (hn : n ≤ 3) (h : w.heap[cb]? = some (.cells (refArr me n a b had lt ac dk) 123)) (hP : PcAt w a b D E) :
    Calls Tryz.prog 103 #[.pointer (some ⟨cb, 0, none⟩)] w fun e w' => e = .returned (.string ⟨(tokL D n).toArray⟩) ∧ Blw w w' := by
  have H := hid h
  have HP := hid hP
  have ld := hP.dl
  have HD := hid (fun d wx hd => digits_any d 1 wx hd (by omega))
  clear h hP
  go_enter Tryz.func103, Tryz.ntmps103
  go_wp2
  go_loopw [3, 4] (fun s i wr => ∃ k : Nat, k ≤ n ∧ i = .int .i64 k ∧ s = .string ⟨(tokL D k).toArray⟩ ∧ Blw w wr) (fun _ i _ => n - (intOf i).toNat)
  case atStart => exact ⟨0, by omega, rfl, rfl, Blw.rfl _⟩
  case round =>
    obtain ⟨k, hk, rfl, rfl, hb⟩ := hrel
    have B := hid hb
    have hr := hb.bq H.out
    obtain ⟨_, c1, _⟩ := ref_n hr
    have HR := hid hr
    clear hb hr
    have hln := tokL_len D k
    have HS : Hid (tokL D (k + 1) = tokL D k ++ [dig (knownL D (k : Int) % 10)]) := rfl
    by_cases hlt : k < n
    · generalize tokL D k = z at *
      have hkl := knownL_le D (k : Int)
      go_wp2_with fail
      refine (known_any cb me n a b had lt ac dk D E (k : Int) _ HR.out (HP.out.on B.out)).mono ?_
      rintro e w1 ⟨rfl, rfl⟩
      generalize knownL D (k : Int) = q at *
      go_wp2_with fail
      refine (HD.out q _ (by omega)).mono ?_
      rintro e w2 ⟨rfl, b2⟩
      have hl1 := lastD_len q 1
      have HL : Hid (lastD q 1 = [dig (q % 10)]) := by show lastD q 1 = _; simp [lastD]
      generalize lastD q 1 = z1 at *
      go_wp2
      go_roundw
      case rel => exact ⟨k + 1, by omega, by go_num, by rw [HS.out, ← HL.out]; exact congrArg Value.string (ByteArray.mk_append_mk z z1), B.out.tr b2⟩
      case measure => simp [intOf]; omega
    · have hkn : k = n := by omega
      have HK : Hid (tokL D n = tokL D k) := by rw [hkn]; exact rfl
      clear HS
      generalize tokL D k = z at *
      subst hkn
      go_wp2
      go_ret
      exact ⟨by rw [HK.out]; rfl, B.out⟩

def flatTo (E : List Bs) (k : Nat) : Bs := (E.take k).flatten
theorem flatTo_succ (E : List Bs) (k : Nat) (hk : k < E.length) : flatTo E (k + 1) = flatTo E k ++ E.getD k [] := by
  unfold flatTo; rw [list_app_idx E k [] hk]; simp
theorem flatTo_len (E : List Bs) (m : Nat) (h : ∀ x ∈ E, x.length ≤ m) (k : Nat) : (flatTo E k).length ≤ m * k := by
  induction k with
  | zero => simp [flatTo]
  | succ k ih =>
    by_cases hk : k < E.length
    · rw [flatTo_succ E k hk, List.length_append]
      have := h _ (mem_getD E k hk)
      rw [Nat.mul_succ]; omega
    · have : E.take (k + 1) = E.take k := by rw [List.take_of_length_le (by omega), List.take_of_length_le (by omega)]
      unfold flatTo at ih ⊢
      rw [this, Nat.mul_succ]; omega
theorem flatTo_all (E : List Bs) : flatTo E E.length = E.flatten := by unfold flatTo; rw [List.take_length]

set_option maxRecDepth 100000 in
set_option maxHeartbeats 1000000 in
theorem rstate_any (cb me n : Nat) (a b : Value) (had : Nat) (lt ac : Value) (dk : Bs) (D E : List Bs) (w : World) (hn : n ≤ 3) (h : w.heap[cb]? = some (.cells (refArr me n a b had lt ac dk) 123)) (hP : PcAt w a b D E) :
    Calls Tryz.prog 51 #[.pointer (some ⟨cb, 0, none⟩)] w fun e w' => e = .returned (.string ⟨(tokL D n ++ [59] ++ E.flatten).toArray⟩) ∧ Blw w w' := by
  have H := hid h
  have HP := hid hP
  have le := hP.el
  obtain ⟨bo, kb, rfl, ob⟩ := hP.e.op
  have OB := hid ob
  have hln := tokL_len D n
  have HT := hid (rtoken_any cb me n a _ had lt ac dk D E w hn h hP)
  have E7 := hid (flatTo_len E 7 (fun x hx => Nat.le_of_eq (hP.e7 x hx)))
  have FA := hid (flatTo_all E)
  clear h hP ob
  generalize tokL D n = tk at *
  go_enter Tryz.func51, Tryz.ntmps51
  go_wp2_with fail
  refine HT.out.mono ?_
  rintro e w1 ⟨rfl, b1⟩
  have B1 := hid b1
  clear b1
  go_wp2_with fail
  have hln1 : (tk ++ [59]).length = n + 1 := by simp [hln]
  have HA := hid (ByteArray.mk_append_mk tk [59])
  go_loopw [3, 4] (fun s i wr => ∃ k : Nat, k ≤ E.length ∧ i = .int .i64 k ∧ s = .string ⟨(tk ++ [59] ++ flatTo E k).toArray⟩ ∧ Blw w wr) (fun _ i _ => E.length - (intOf i).toNat)
  case atStart => exact ⟨0, by omega, rfl, by simp [flatTo]; exact HA.out, B1.out⟩
  case round =>
    obtain ⟨k, hk, rfl, rfl, hb⟩ := hrel
    have B := hid hb
    have hr := hb.bq H.out
    obtain ⟨_, _, _, c3, _⟩ := ref_n hr
    clear hb hr
    have hfl := E7.out k
    have hl2 : (tk ++ [59] ++ flatTo E k).length = n + 1 + (flatTo E k).length := by rw [List.length_append, hln1]
    by_cases hlt : k < E.length
    · obtain ⟨g, rfl, hg, hc⟩ := OB.out (by omega)
      have hck := (bcell B.out).1 g k hg
      rw [hc k hlt] at hck
      unfold strV at hck
      have h7 := HP.out.e7 _ (mem_getD E k hlt)
      have HS := hid (flatTo_succ E k hlt)
      clear hc
      generalize E.getD k [] = x at *
      have HX : Hid (tk ++ [59] ++ flatTo E (k + 1) = (tk ++ [59] ++ flatTo E k) ++ x) := by
        show tk ++ [59] ++ flatTo E (k + 1) = _
        rw [HS.out, ← List.append_assoc]
      clear HS
      generalize tk ++ [59] ++ flatTo E k = z at *
      go_wp2
      go_roundw
      case rel => exact ⟨k + 1, by omega, by go_num, by rw [HX.out]; exact congrArg Value.string (ByteArray.mk_append_mk z x), B.out⟩
      case measure => simp [intOf]; omega
    · have hkn : k = E.length := by omega
      have HK : Hid (tk ++ [59] ++ E.flatten = tk ++ [59] ++ flatTo E k) := by rw [hkn, FA.out]; exact rfl
      generalize tk ++ [59] ++ flatTo E k = z at *
      subst hkn
      go_wp2
      go_ret
      exact ⟨by rw [HK.out]; rfl, B.out⟩
end Go.Proofs.YtalaldfgjgpacaaGreatDoor

namespace Go.Proofs.YtalaldfgjgpacaaGreatDoor
set_option linter.unusedVariables false
set_option linter.unusedSimpArgs false
open Go.RowKit

set_option maxRecDepth 100000 in
set_option maxHeartbeats 1000000 in
theorem may_any (cb me n : Nat) (a b : Value) (had : Nat) (lt ac : Value) (dk : Bs) (D E : List Bs) (p : Pc) (s : ByteArray) (w : World) (hn : n ≤ 3) (hs : s.size ≤ maxLen) (h : w.heap[cb]? = some (.cells (refArr me n a b had lt ac dk) 123)) (hP : PcAt w a b D E) (hK : ∀ r : Int, knownL D r = p.count r) :
    Calls Tryz.prog 100 #[.pointer (some ⟨cb, 0, none⟩), .string s] w fun e w' => e = .returned (.int .i64 (tokErr n p s.data.toList)) ∧ w' = w := by
  unfold maxLen at hs
  obtain ⟨c0, c1, _⟩ := ref_n h
  have H := hid h
  have HP := hid hP
  have HK := hid hK
  have HZ := hid (show s.data.toList.length = s.size from Array.length_toList)
  have HA := hid (fun wx hl => all_any s.data.toList wx hl)
  simp only [strV_eta] at HA
  clear h hP hK c0
  obtain ⟨t, ht⟩ : ∃ t, t = tokErr n p s.data.toList := ⟨_, rfl⟩
  rw [← ht]
  have HT := hid ht
  clear ht
  by_cases hl : s.size = n
  · have hl1 : ((s.size : Int) != (n : Int)) = false := by simp; omega
    have HL := hid hl
    have hss : s.size ≤ 3 := by omega
    clear hl
    go_enter Tryz.func100, Tryz.ntmps100
    go_wp2_with fail
    refine (HA.out _ (by have := HZ.out; omega)).mono ?_
    rintro e w1 ⟨rfl, rfl⟩
    cases hal : s.data.toList.all isDigB
    · have HF : Hid (t = 2) := by show t = 2; rw [HT.out, tokErr, isTok, hal]; simp
      go_wp2
      go_ret
      exact ⟨by rw [HF.out]; rfl, rfl⟩
    · have HK2 : Hid (isTok n s.data.toList = true) := by show isTok n s.data.toList = true; simp [isTok, hal, HZ.out, HL.out]
      have hall : ∀ k (hk : k < s.size), 48 ≤ (s[k].toNat : Int) ∧ (s[k].toNat : Int) ≤ 57 := by
        intro k hk
        have h2 := (List.all_eq_true.1 hal) s[k] (by rw [show s[k] = s.data.toList[k]'(by rw [HZ.out]; exact hk) from rfl]; exact List.getElem_mem _)
        simp only [isDigB, Bool.and_eq_true, decide_eq_true_eq, UInt8.le_iff_toNat_le] at h2
        have e1 : (48 : UInt8).toNat = 48 := rfl
        have e2 : (57 : UInt8).toNat = 57 := rfl
        omega
      have HALL := hid hall
      clear hall hal
      go_wp2_with fail
      go_loop [6] (fun i => ∃ k : Nat, k ≤ n ∧ i = .int .i64 k ∧ staleTo p s.data.toList k = false) (fun i => n - (intOf i).toNat)
      case atStart => exact ⟨0, by omega, rfl, rfl⟩
      case round =>
        obtain ⟨k, hk, rfl, hst⟩ := hrel
        have HST := hid hst
        clear hst
        by_cases hlt : k < n
        · have hlt' : k < s.size := by have := HL.out; omega
          obtain ⟨g0, g1⟩ := HALL.out k hlt'
          have HE : Hid (staleTo p s.data.toList (k + 1) = decide (p.count (k : Int) < s[k].toNat - 48)) := by
            show staleTo p s.data.toList (k + 1) = _
            rw [staleTo, HST.out]
            simp [List.getD, List.getElem?_eq_getElem (show k < s.data.toList.length by rw [HZ.out]; exact hlt')]
            rfl
          have hcnt := Pc.count_le p (k : Int)
          go_wp2_with fail
          refine (known_any cb me n a b had lt ac dk D E (k : Int) _ H.out HP.out).mono ?_
          rintro e w2 ⟨rfl, rfl⟩
          rw [HK.out]
          obtain ⟨d, hd⟩ : ∃ d, d = p.count (k : Int) := ⟨_, rfl⟩
          rw [← hd] at hcnt
          rw [← hd]
          have HD := hid hd
          clear hd
          by_cases hgt : (d : Int) < (s[k].toNat : Int) - 48
          · have HF : Hid (t = 3) := by
              show t = 3
              have h1 : staleTo p s.data.toList (k + 1) = true := by rw [HE.out, ← HD.out]; simp; omega
              rw [HT.out, tokErr, HK2.out, stale_mono p _ _ h1 _ (by rw [HZ.out]; omega)]; rfl
            go_wp2
            go_ret
            exact ⟨by rw [HF.out]; rfl, rfl⟩
          · have HG : Hid (staleTo p s.data.toList (k + 1) = false) := by
              show staleTo p s.data.toList (k + 1) = false
              rw [HE.out, ← HD.out]; simp; omega
            go_wp2
            go_round
            case rel => exact ⟨k + 1, by omega, by go_num, HG.out⟩
            case measure => simp [intOf]; omega
        · have hkn : k = n := by omega
          have HF : Hid (t = 0) := by
            show t = 0
            rw [HT.out, tokErr, HK2.out, HZ.out, HL.out, ← hkn, HST.out]; rfl
          subst hkn
          go_wp2
          go_ret
          exact ⟨by rw [HF.out]; rfl, rfl⟩
  · have hl1 : ((s.size : Int) != (n : Int)) = true := by simp; omega
    have HF : Hid (t = 2) := by show t = 2; rw [HT.out, tokErr, isTok, HZ.out]; simp [hl]
    clear hl
    go_enter Tryz.func100, Tryz.ntmps100
    go_wp2
    go_ret
    exact ⟨by rw [HF.out]; rfl, rfl⟩

/-- A piece as text, by its lists. -/
def writeL (D E : List Bs) : Bs := D.flatten ++ [59] ++ E.flatten

set_option maxRecDepth 100000 in
set_option maxHeartbeats 1000000 in
theorem write_any (a b : Value) (D E : List Bs) (w : World) (hP : PcAt w a b D E) :
    Calls Tryz.prog 105 #[.agg #[a, b]] w fun e w' => e = .returned (.string ⟨(writeL D E).toArray⟩) ∧ Blw w w' := by
  have HP := hid hP
  have ld := hP.dl
  have le := hP.el
  obtain ⟨ao, ka, rfl, oa⟩ := hP.d.op
  obtain ⟨bo, kb, rfl, ob⟩ := hP.e.op
  have OA := hid oa
  have OB := hid ob
  have E7 := hid (flatTo_len E 7 (fun x hx => Nat.le_of_eq (hP.e7 x hx)))
  have D2 := hid (flatTo_len D 2 (fun x hx => by obtain ⟨c0, c1, rfl, _⟩ := hP.d2 x hx; simp))
  have FA := hid (flatTo_all E)
  have FD := hid (flatTo_all D)
  have d2 := hid hP.d2
  clear hP oa ob
  go_enter Tryz.func105, Tryz.ntmps105
  go_wp2
  go_loop [3, 4] (fun s i => ∃ k : Nat, k ≤ D.length ∧ i = .int .i64 k ∧ s = .string ⟨(flatTo D k).toArray⟩) (fun _ i => D.length - (intOf i).toNat)
  case atStart => exact ⟨0, by omega, rfl, by simp [flatTo]⟩
  case round =>
    obtain ⟨k, hk, rfl, rfl⟩ := hrel
    have hfl := D2.out k
    by_cases hlt : k < D.length
    · obtain ⟨g, rfl, hg, hc⟩ := OA.out (by omega)
      have hck := hc k hlt
      unfold strV at hck
      have h7 : (D.getD k []).length = 2 := by obtain ⟨c0, c1, e, _⟩ := d2.out _ (mem_getD D k hlt); rw [e]; rfl
      have HS := hid (flatTo_succ D k hlt)
      have hck' : (w.alloc (.cells #[.slice (some ⟨g, 0, none⟩) D.length ka, .slice bo E.length kb] 120)).cell? ⟨g, k, none⟩ = _ := ((bcell ((Blw.rfl w).al (.cells #[.slice (some ⟨g, 0, none⟩) D.length ka, .slice bo E.length kb] 120))).1 g k hg).trans hck
      clear hc
      generalize D.getD k [] = x at *
      generalize flatTo D k = z at *
      go_wp2
      go_round
      case rel => exact ⟨k + 1, by omega, by go_num, by rw [HS.out]; exact congrArg Value.string (ByteArray.mk_append_mk z x)⟩
      case measure => simp [intOf]; omega
    · have hkn : k = D.length := by omega
      have HK : Hid (flatTo D k = D.flatten) := by rw [hkn, FD.out]; exact rfl
      generalize flatTo D k = z at *
      subst hkn
      have hz1 : (z ++ [59]).length = z.length + 1 := by simp
      have HA := hid (ByteArray.mk_append_mk z [59])
      go_wp2
      go_loop [3, 5] (fun s i => ∃ k : Nat, k ≤ E.length ∧ i = .int .i64 k ∧ s = .string ⟨(z ++ [59] ++ flatTo E k).toArray⟩) (fun _ i => E.length - (intOf i).toNat)
      case atStart => exact ⟨0, by omega, rfl, by simp [flatTo]; exact HA.out⟩
      case round =>
        obtain ⟨k, hk, rfl, rfl⟩ := hrel
        have hfe := E7.out k
        have hl2 : (z ++ [59] ++ flatTo E k).length = z.length + 1 + (flatTo E k).length := by rw [List.length_append, hz1]
        by_cases hlt : k < E.length
        · obtain ⟨g, rfl, hg, hc⟩ := OB.out (by omega)
          have hck := hc k hlt
          unfold strV at hck
          have h7 := HP.out.e7 _ (mem_getD E k hlt)
          have HS := hid (flatTo_succ E k hlt)
          have hck' : (w.alloc (.cells #[.slice ao D.length ka, .slice (some ⟨g, 0, none⟩) E.length kb] 120)).cell? ⟨g, k, none⟩ = _ := ((bcell ((Blw.rfl w).al (.cells #[.slice ao D.length ka, .slice (some ⟨g, 0, none⟩) E.length kb] 120))).1 g k hg).trans hck
          clear hc
          generalize E.getD k [] = x at *
          have HX : Hid (z ++ [59] ++ flatTo E (k + 1) = (z ++ [59] ++ flatTo E k) ++ x) := by
            show z ++ [59] ++ flatTo E (k + 1) = _
            rw [HS.out, ← List.append_assoc]
          clear HS
          generalize z ++ [59] ++ flatTo E k = y at *
          go_wp2
          go_round
          case rel => exact ⟨k + 1, by omega, by go_num, by rw [HX.out]; exact congrArg Value.string (ByteArray.mk_append_mk y x)⟩
          case measure => simp [intOf]; omega
        · have hkn : k = E.length := by omega
          have HY : Hid (writeL D E = z ++ [59] ++ flatTo E k) := by rw [hkn, FA.out, HK.out]; exact rfl
          generalize z ++ [59] ++ flatTo E k = y at *
          subst hkn
          go_wp2
          go_ret
          exact ⟨by rw [HY.out]; rfl, (Blw.rfl _).al _⟩
end Go.Proofs.YtalaldfgjgpacaaGreatDoor
