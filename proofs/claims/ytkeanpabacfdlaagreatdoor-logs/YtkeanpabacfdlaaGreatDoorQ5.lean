import Derived.Test.YtkeanpabacfdlaaGreatDoorQ4
import Derived.Test.YtkeanpabacfdlaaGreatDoorW9
namespace Go.Proofs.YtkeanpabacfdlaaGreatDoor
set_option linter.unusedVariables false
set_option linter.unusedSimpArgs false
open Go.RowKit

theorem digsIn_no (l : Bs) (k : Nat) (hk : k < l.length) (h : isDigB (l.getD k 0) = false) : l.all isDigB = false := by
  rw [List.all_eq_false]
  refine ⟨l.getD k 0, ?_, by rw [h]; exact Bool.false_ne_true⟩
  rw [List.getD_eq_getElem?_getD, List.getElem?_eq_getElem hk]; exact List.getElem_mem hk

theorem byte_at (l : Bs) (k : Nat) (hk : k < (ByteArray.mk l.toArray).size) : (ByteArray.mk l.toArray)[k]'hk = l.getD k 0 := by
  have hk' : k < l.length := by rw [bs_size] at hk; exact hk
  simp [List.getD, List.getElem?_eq_getElem hk']
  rfl

set_option maxHeartbeats 1000000 in
theorem all_any (l : Bs) (w : World) (hl : l.length ≤ 2000000) :
    Calls Tryz.prog 59 #[strV l] w fun e w' => e = .returned (.bool (l.all isDigB)) ∧ w' = w := by
  obtain ⟨s, hs⟩ : ∃ s : ByteArray, s = ⟨l.toArray⟩ := ⟨_, rfl⟩
  have hsz : s.size = l.length := by rw [hs, bs_size]
  have HB : Hid (∀ k (hk : k < s.size), s[k]'hk = l.getD k 0) := by
    show ∀ k (hk : k < s.size), s[k]'hk = l.getD k 0
    subst hs; exact byte_at l
  have HD := hid (digsIn_all l)
  have HN := hid (digsIn_no l)
  obtain ⟨t, ht⟩ : ∃ t, t = l.all isDigB := ⟨_, rfl⟩
  rw [← ht]
  have HT := hid ht
  have hl' : s.size ≤ 2000000 := by omega
  unfold strV
  rw [← hs]
  have HZ := hid hsz
  clear hs ht hsz hl
  go_enter Tryz.func59, Tryz.ntmps59
  go_wp2
  go_loop [3] (fun i => ∃ k : Nat, k ≤ s.size ∧ i = .int .i64 k ∧ digsIn l k = true) (fun i => s.size - (intOf i).toNat)
  case atStart => exact ⟨0, by omega, rfl, rfl⟩
  case round =>
    obtain ⟨k, hk, rfl, hdg⟩ := hrel
    have HDG := hid hdg
    clear hdg
    by_cases hlt : k < s.size
    · have HE := hid (HB.out k hlt)
      go_wp2_with fail
      refine (isDigit_any (s[k]) _).mono ?_
      rintro e w1 ⟨rfl, rfl⟩
      cases hd : isDigB s[k]
      · have HF : Hid (t = false) := by
          show t = false
          rw [HT.out]; exact HN.out k (by have := HZ.out; omega) (by rw [← HE.out]; exact hd)
        go_wp2
        go_ret
        exact ⟨by rw [HF.out]; rfl, rfl⟩
      · have HG : Hid (digsIn l (k + 1) = true) := by
          show digsIn l (k + 1) = true
          rw [digsIn, HDG.out, ← HE.out, hd]; rfl
        go_wp2
        go_round
        case rel => exact ⟨k + 1, by omega, by go_num, HG.out⟩
        case measure => simp [intOf]; omega
    · have hkn : k = s.size := by omega
      have HF : Hid (t = true) := by
        show t = true
        have h1 := HDG.out
        rw [hkn, HZ.out, HD.out _ (Nat.le_refl _), List.take_length] at h1
        rw [HT.out, h1]
      subst hkn
      go_wp2
      go_ret
      exact ⟨by rw [HF.out]; rfl, rfl⟩

/-- The digits of State, by the lists. -/
def tokL (D : List Bs) : Nat → Bs
  | 0 => []
  | k + 1 => tokL D k ++ [dig (knownL D (k : Int) % 10)]
theorem tokL_len (D : List Bs) (k : Nat) : (tokL D k).length = k := by
  induction k with
  | zero => rfl
  | succ k ih => simp [tokL, ih]

theorem knownL_le (D : List Bs) (r : Int) : knownL D r ≤ D.length := List.countP_le_length

theorem ref_n {w : World} {cb me n : Nat} {a b : Value} {had : Nat} {lt ac : Value} {dk : Bs} {t : TypeId} (h : w.heap[cb]? = some (.cells (refArr me n a b had lt ac dk) t)) :
    w.cell? ⟨cb, 0, none⟩ = some (.int .i64 me) ∧ w.cell? ⟨cb, 1, none⟩ = some (.int .i64 n) ∧ w.cell? ⟨cb, 2, none⟩ = some a ∧ w.cell? ⟨cb, 3, none⟩ = some b ∧ w.cell? ⟨cb, 4, none⟩ = some (.int .i64 had) ∧ w.cell? ⟨cb, 5, none⟩ = some lt ∧ w.cell? ⟨cb, 6, none⟩ = some ac ∧ w.cell? ⟨cb, 7, none⟩ = some (.string ⟨dk.toArray⟩) :=
  ⟨blk_cell h 0, blk_cell h 1, blk_cell h 2, blk_cell h 3, blk_cell h 4, blk_cell h 5, blk_cell h 6, blk_cell h 7⟩

theorem Blw.bq {a w : World} (h : Blw a w) {b : Nat} {o : Obj} (hb : a.heap[b]? = some o) : w.heap[b]? = some o := (h.bk b (lt_of_blk hb)).trans hb

set_option maxRecDepth 100000 in
set_option maxHeartbeats 1000000 in
theorem rtoken_any (cb me n : Nat) (a b : Value) (had : Nat) (lt ac : Value) (dk : Bs) (D E : List Bs) (w : World) (hn : n ≤ 3) (h : w.heap[cb]? = some (.cells (refArr me n a b had lt ac dk) 104)) (hP : PcAt w a b D E) :
    Calls Tryz.prog 78 #[.pointer (some ⟨cb, 0, none⟩)] w fun e w' => e = .returned (.string ⟨(tokL D n).toArray⟩) ∧ Blw w w' := by
  have H := hid h
  have HP := hid hP
  have ld := hP.dl
  have HD := hid (fun d wx hd => digits_any d 1 wx hd (by omega))
  clear h hP
  go_enter Tryz.func78, Tryz.ntmps78
  go_wp2
  go_loopw [3, 4] (fun s i wr => ∃ k : Nat, k ≤ n ∧ i = .int .i64 k ∧ s = .string ⟨(tokL D k).toArray⟩ ∧ Blw w wr) (fun _ i _ => n - (intOf i).toNat)
  case atStart => exact ⟨0, by omega, rfl, rfl, Blw.rfl _⟩
  case round =>
    obtain ⟨k, hk, rfl, rfl, hb⟩ := hrel
    have B := hid hb
    have hr := hb.bq H.out
    obtain ⟨_, c1, _⟩ := ref_n hr
    have HR := hid hr
    clear hb hr
    have hln := tokL_len D k
    have HS : Hid (tokL D (k + 1) = tokL D k ++ [dig (knownL D (k : Int) % 10)]) := rfl
    by_cases hlt : k < n
    · generalize tokL D k = z at *
      have hkl := knownL_le D (k : Int)
      go_wp2_with fail
      refine (known_any cb me n a b had lt ac dk D E (k : Int) _ HR.out (HP.out.on B.out)).mono ?_
      rintro e w1 ⟨rfl, rfl⟩
      generalize knownL D (k : Int) = q at *
      go_wp2_with fail
      refine (HD.out q _ (by omega)).mono ?_
      rintro e w2 ⟨rfl, b2⟩
      have hl1 := lastD_len q 1
      have HL : Hid (lastD q 1 = [dig (q % 10)]) := by show lastD q 1 = _; simp [lastD]
      generalize lastD q 1 = z1 at *
      go_wp2
      go_roundw
      case rel => exact ⟨k + 1, by omega, by go_num, by rw [HS.out, ← HL.out]; exact congrArg Value.string (ByteArray.mk_append_mk z z1), B.out.tr b2⟩
      case measure => simp [intOf]; omega
    · have hkn : k = n := by omega
      have HK : Hid (tokL D n = tokL D k) := by rw [hkn]; exact rfl
      clear HS
      generalize tokL D k = z at *
      subst hkn
      go_wp2
      go_ret
      exact ⟨by rw [HK.out]; rfl, B.out⟩

def flatTo (E : List Bs) (k : Nat) : Bs := (E.take k).flatten
theorem flatTo_succ (E : List Bs) (k : Nat) (hk : k < E.length) : flatTo E (k + 1) = flatTo E k ++ E.getD k [] := by
  unfold flatTo; rw [list_app_idx E k [] hk]; simp
theorem flatTo_len (E : List Bs) (m : Nat) (h : ∀ x ∈ E, x.length ≤ m) (k : Nat) : (flatTo E k).length ≤ m * k := by
  induction k with
  | zero => simp [flatTo]
  | succ k ih =>
    by_cases hk : k < E.length
    · rw [flatTo_succ E k hk, List.length_append]
      have := h _ (mem_getD E k hk)
      rw [Nat.mul_succ]; omega
    · have : E.take (k + 1) = E.take k := by rw [List.take_of_length_le (by omega), List.take_of_length_le (by omega)]
      unfold flatTo at ih ⊢
      rw [this, Nat.mul_succ]; omega
theorem flatTo_all (E : List Bs) : flatTo E E.length = E.flatten := by unfold flatTo; rw [List.take_length]

set_option maxRecDepth 100000 in
set_option maxHeartbeats 1000000 in
theorem rstate_any (cb me n : Nat) (a b : Value) (had : Nat) (lt ac : Value) (dk : Bs) (D E : List Bs) (w : World) (hn : n ≤ 3) (h : w.heap[cb]? = some (.cells (refArr me n a b had lt ac dk) 104)) (hP : PcAt w a b D E) :
    Calls Tryz.prog 37 #[.pointer (some ⟨cb, 0, none⟩)] w fun e w' => e = .returned (.string ⟨(tokL D n ++ [59] ++ E.flatten).toArray⟩) ∧ Blw w w' := by
  have H := hid h
  have HP := hid hP
  have le := hP.el
  obtain ⟨bo, kb, rfl, ob⟩ := hP.e.op
  have OB := hid ob
  have hln := tokL_len D n
  have HT := hid (rtoken_any cb me n a _ had lt ac dk D E w hn h hP)
  have E7 := hid (flatTo_len E 7 (fun x hx => Nat.le_of_eq (hP.e7 x hx)))
  have FA := hid (flatTo_all E)
  clear h hP ob
  generalize tokL D n = tk at *
  go_enter Tryz.func37, Tryz.ntmps37
  go_wp2_with fail
  refine HT.out.mono ?_
  rintro e w1 ⟨rfl, b1⟩
  have B1 := hid b1
  clear b1
  go_wp2_with fail
  have hln1 : (tk ++ [59]).length = n + 1 := by simp [hln]
  have HA := hid (ByteArray.mk_append_mk tk [59])
  go_loopw [3, 4] (fun s i wr => ∃ k : Nat, k ≤ E.length ∧ i = .int .i64 k ∧ s = .string ⟨(tk ++ [59] ++ flatTo E k).toArray⟩ ∧ Blw w wr) (fun _ i _ => E.length - (intOf i).toNat)
  case atStart => exact ⟨0, by omega, rfl, by simp [flatTo]; exact HA.out, B1.out⟩
  case round =>
    obtain ⟨k, hk, rfl, rfl, hb⟩ := hrel
    have B := hid hb
    have hr := hb.bq H.out
    obtain ⟨_, _, _, c3, _⟩ := ref_n hr
    clear hb hr
    have hfl := E7.out k
    have hl2 : (tk ++ [59] ++ flatTo E k).length = n + 1 + (flatTo E k).length := by rw [List.length_append, hln1]
    by_cases hlt : k < E.length
    · obtain ⟨g, rfl, hg, hc⟩ := OB.out (by omega)
      have hck := (bcell B.out).1 g k hg
      rw [hc k hlt] at hck
      unfold strV at hck
      have h7 := HP.out.e7 _ (mem_getD E k hlt)
      have HS := hid (flatTo_succ E k hlt)
      clear hc
      generalize E.getD k [] = x at *
      have HX : Hid (tk ++ [59] ++ flatTo E (k + 1) = (tk ++ [59] ++ flatTo E k) ++ x) := by
        show tk ++ [59] ++ flatTo E (k + 1) = _
        rw [HS.out, ← List.append_assoc]
      clear HS
      generalize tk ++ [59] ++ flatTo E k = z at *
      go_wp2
      go_roundw
      case rel => exact ⟨k + 1, by omega, by go_num, by rw [HX.out]; exact congrArg Value.string (ByteArray.mk_append_mk z x), B.out⟩
      case measure => simp [intOf]; omega
    · have hkn : k = E.length := by omega
      have HK : Hid (tk ++ [59] ++ E.flatten = tk ++ [59] ++ flatTo E k) := by rw [hkn, FA.out]; exact rfl
      generalize tk ++ [59] ++ flatTo E k = z at *
      subst hkn
      go_wp2
      go_ret
      exact ⟨by rw [HK.out]; rfl, B.out⟩
end Go.Proofs.YtkeanpabacfdlaaGreatDoor
