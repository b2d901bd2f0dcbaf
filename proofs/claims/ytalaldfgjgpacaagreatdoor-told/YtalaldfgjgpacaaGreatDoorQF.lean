import Derived.Test.YtalaldfgjgpacaaGreatDoorHBD
namespace Go.Proofs.YtalaldfgjgpacaaGreatDoor
set_option linter.unusedVariables false
set_option linter.unusedSimpArgs false
open Go.RowKit
attribute [local go_sem ↓] Go.wp_at_zero Go.wp_at_succ

set_option maxRecDepth 100000 in
set_option maxHeartbeats 8000000 in
theorem runs_0 (J : CS → Prop) (ops : Nat → OpR) (len cap n : Nat) (ad : Option Addr) (mode hi : Int) (w : World) (h1 : 1 ≤ n) (h3 : n ≤ 3) (hm : mode = 0 ∨ mode = 1 ∨ mode = 2) (hlen : len ≤ 1048576) (hok : ∀ i, i < len → (ops i).ok) (hJ0 : J (CS.start n mode)) (hJ : ∀ s k o, Ran s k → s.n = n → J s → o.kind ≤ hi → J (s.step o)) (hL : 0 < len → ∃ sb off, ad = some ⟨sb, off, none⟩ ∧ Lies ops len sb off w ∧ sb < w.heap.size) (ht : Tab Tryz.prog w) :
    Calls Tryz.prog 15 #[.slice ad len cap, .int .i64 n, .int .i64 mode, .int .i64 hi, .int .i64 0] w fun e w' => e = .returned (.tuple #[.pointer (some ⟨w.heap.size, 0, none⟩), .bool true]) ∧ ∃ m s, RunAt J w w' m s n mode len := by
  have HST := hid (start_any n mode w h1 h3 ht)
  obtain ⟨cb, hcb⟩ : ∃ cb, cb = w.heap.size := ⟨_, rfl⟩
  rw [← hcb] at HST ⊢
  have HCB := hid hcb
  obtain ⟨F, hF⟩ : ∃ F : World → Prop, F = fun w' => ∃ m s, RunAt J w w' m s n mode len := ⟨_, rfl⟩
  rw [show (fun e w' => e = Ending.returned (.tuple #[.pointer (some ⟨cb, 0, none⟩), .bool true]) ∧ ∃ m s, RunAt J w w' m s n mode len) = fun e w' => e = Ending.returned (.tuple #[.pointer (some ⟨cb, 0, none⟩), .bool true]) ∧ F w' by rw [hF]]
  have HF := hid hF
  have HL := hid hL
  have HOK := hid hok
  have HJJ := hid (And.intro hJ0 hJ)
  have HM := hid hm
  clear ht hcb hF hL hok hJ0 hJ hm
  go_enter Tryz.func15, Tryz.ntmps15
  go_wp2_with fail
  refine HST.out.mono ?_
  rintro e w1 ⟨rfl, b1, m1, hc1, hcb1, ho1⟩
  have R1 : Hid (RunAt J w w1 m1 (CS.start n mode) n mode 0) := ⟨hc1, Ran.start h1 h3 mode, rfl, rfl, hcb1.trans HCB.out, b1, fun k hk => by have := ((ho1 k).1 hk).1; rw [HCB.out] at this; exact this, HJJ.out.1⟩
  clear b1 hc1 hcb1 ho1
  go_wp2_with fail
  go_loopw [13, 14] (fun ok i wr => ∃ (k : Nat) (m : CM) (s : CS), k ≤ len ∧ ok = .bool true ∧ i = .int .i64 k ∧ RunAt J w wr m s n mode k) (fun _ i _ => len - (intOf i).toNat)
  case atStart => exact ⟨0, _, _, by omega, rfl, rfl, R1.out⟩
  case round =>
    obtain ⟨k, m, s, hk, rfl, rfl, hR⟩ := hrel
    have HR := hid hR
    clear hR
    by_cases hlt : k < len
    · obtain ⟨sb, off, rfl, hLi, hsb⟩ := HL.out (by omega)
      obtain ⟨c0, c1, c2, c3, c4, c5, c6⟩ := (hLi.on (HR.out.bl.bk sb hsb)) k hlt
      clear hLi hsb
      have hok := HOK.out k hlt
      obtain ⟨o, ho⟩ : ∃ o, o = ops k := ⟨_, rfl⟩
      rw [← ho] at c0 c1 c2 c3 c4 c5 c6 hok
      clear ho
      obtain ⟨kd, r0, t0, a0, b0, c00, s0⟩ := o
      simp only at c0 c1 c2 c3 c4 c5 c6
      have HOO := hid hok
      clear hok
      obtain ⟨W2, hW2⟩ : ∃ W2, W2 = wr.alloc (.cells #[.int .i64 kd, .int .i64 r0, .int .i64 t0, .int .i64 a0, .int .i64 b0, .int .i64 c00, .string s0] 46) := ⟨_, rfl⟩
      have HW2 := hid hW2
      have b2 : Blw wr W2 := by rw [hW2]; exact (Blw.rfl wr).al _
      have R2 := hid (HR.out.blw b2)
      have hb2 : W2.heap[wr.heap.size]? = some (.cells #[.int .i64 kd, .int .i64 r0, .int .i64 t0, .int .i64 a0, .int .i64 b0, .int .i64 c00, .string s0] 46) := by rw [hW2]; exact hp_new wr _
      clear hW2 b2
      by_cases g2 : hi < kd
      · have d2 : decide (hi < kd) = true := by simpa using g2
        clear g2 hb2
        go_wp2_with fail
        try rw [← HW2.out]
        go_roundw
        case rel => exact ⟨k + 1, m, s, by omega, rfl, by go_num, R2.out.more (Nat.le_succ k)⟩
        case measure => simp [intOf]; omega
      · have d2 : decide (hi < kd) = false := by simpa using g2
        have HSTP := hid (step_cl R2.out.ran.inv R2.out.cl (R2.out.hmode ▸ HM.out) (Nat.le_trans R2.out.ran.lg (by omega)) (Nat.le_trans R2.out.ran.wi (by omega)) (Nat.le_trans R2.out.ran.ak (by omega)) ⟨kd, r0, t0, a0, b0, c00, s0⟩ HOO.out)
        rw [R2.out.cb, ← HCB.out] at HSTP
        have HNX := hid (fun (w' : World) (m' : CM) (hM : Moved W2 w' m m' (s.step ⟨kd, r0, t0, a0, b0, c00, s0⟩)) => R2.out.step hM (HJJ.out.2 s k ⟨kd, r0, t0, a0, b0, c00, s0⟩ R2.out.ran R2.out.hn R2.out.j (by show kd ≤ hi; omega)))
        have y0 : W2.cell? ⟨wr.heap.size, 0, none⟩ = some (.int .i64 kd) := by rw [blk_cell hb2]; rfl
        have y1 : W2.cell? ⟨wr.heap.size, 1, none⟩ = some (.int .i64 r0) := by rw [blk_cell hb2]; rfl
        have y2 : W2.cell? ⟨wr.heap.size, 2, none⟩ = some (.int .i64 t0) := by rw [blk_cell hb2]; rfl
        have y3 : W2.cell? ⟨wr.heap.size, 3, none⟩ = some (.int .i64 a0) := by rw [blk_cell hb2]; rfl
        have y4 : W2.cell? ⟨wr.heap.size, 4, none⟩ = some (.int .i64 b0) := by rw [blk_cell hb2]; rfl
        have y5 : W2.cell? ⟨wr.heap.size, 5, none⟩ = some (.int .i64 c00) := by rw [blk_cell hb2]; rfl
        have y6 : W2.cell? ⟨wr.heap.size, 6, none⟩ = some (.string s0) := by rw [blk_cell hb2]; rfl
        clear g2 hb2
        simp only [opArr] at HSTP
        go_wp2_with fail
        try rw [← HW2.out]
        refine HSTP.out.mono ?_
        rintro e w4 ⟨rfl, m', hM⟩
        obtain ⟨s', hs'⟩ : ∃ s', s' = s.step ⟨kd, r0, t0, a0, b0, c00, s0⟩ := ⟨_, rfl⟩
        rw [← hs'] at hM
        have R4 : Hid (RunAt J w w4 m' s' n mode (k + 1)) := by rw [hs'] at hM ⊢; exact HNX.out w4 m' hM
        clear hM hs' y0 y1 y2 y3 y4 y5 y6 c0 c1 c2 c3 c4 c5 c6
        go_wp2_with fail
        go_loopw [13, 16] (fun ok r w5 => ∃ j : Nat, j ≤ n ∧ r = .int .i64 j ∧ ok = .bool true ∧ Blw w4 w5) (fun _ r _ => n - (intOf r).toNat)
        case atStart => exact ⟨0, by omega, rfl, rfl, Blw.rfl _⟩
        case round =>
          obtain ⟨j, hj, rfl, rfl, hb5⟩ := hrel
          have HB5 := hid hb5
          clear hb5
          by_cases hj2 : j < n
          · go_wp2
            go_roundw
            case rel => exact ⟨j + 1, by omega, by go_num, rfl, HB5.out⟩
            case measure => simp [intOf]; omega
          · have hjn : j = n := by omega
            subst hjn
            go_wp2
            go_roundw
            case rel => exact ⟨k + 1, m', s', by omega, rfl, by go_num, R4.out.blw HB5.out⟩
            case measure => simp [intOf]; omega
    · have hkn : k = len := by omega
      subst hkn
      have FIN : Hid (F wr) := by
        show F _
        rw [HF.out]
        exact ⟨m, s, HR.out⟩
      go_wp2
      go_ret2
      exact ⟨rfl, FIN.out⟩
end Go.Proofs.YtalaldfgjgpacaaGreatDoor
