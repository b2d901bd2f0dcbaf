import Derived.Test.YtalaldfgjgpacaaGreatDoorHBC
import Derived.Test.YtalaldfgjgpacaaGreatDoorHBD
import Derived.Test.YtalaldfgjgpacaaGreatDoorQB
import Derived.Test.YtalaldfgjgpacaaGreatDoorY4c
namespace Go.Proofs.YtalaldfgjgpacaaGreatDoor
set_option linter.unusedVariables false
set_option linter.unusedSimpArgs false
open Go.RowKit
attribute [local go_sem ↓] Go.wp_at_zero Go.wp_at_succ

set_option maxRecDepth 100000 in
set_option maxHeartbeats 8000000 in
/-- A replica tells of each cart what is meant. -/
theorem reads_at {w : World} {cb xb kb cx ck b g n r : Nat} {p : Pc} {x : Ext} {K : Vec} {ea : Option Addr} {ecap : Nat} {evs : List Ev} {us : Nat → Nat} (h : LookR w cb xb kb cx ck b g n r p x K) (hc4 : w.cell? ⟨cb, 4, none⟩ = some (.slice ea evs.length ecap)) (hE : EvsIn w n ea evs us) (hn : n ≤ 3) (hr : r < n) (hlen : evs.length ≤ 27) (hval : ∀ e, e ∈ evs → -99 ≤ e.value ∧ e.value ≤ 99) (hp : p.ok) (ht : Tab Tryz.prog w) (hm : ∀ c : Int, meantTo evs K c 4 = p.sumsTo c 4) :
    Calls Tryz.prog 26 #[.pointer (some ⟨cb, 0, none⟩), .int .i64 r] w fun e w' => e = .returned (.bool true) ∧ Blw w w' := by
  obtain ⟨len, hln⟩ : ∃ len, len = evs.length := ⟨_, rfl⟩
  rw [← hln] at hc4
  have HLN := hid hln
  obtain ⟨z, hz⟩ : ∃ z : ByteArray, z = ⟨(noughtsL n).toArray⟩ := ⟨_, rfl⟩
  have hzl : z.data.toList = noughtsL n := by rw [hz]
  have hzs : z.size ≤ maxLen := by rw [hz, ba_size]; unfold noughtsL maxLen; simp; omega
  have HZ := hid (zeros_any n w hn)
  rw [← hz] at HZ
  have HRD := hid (fun (c : Int) (h0 : 0 ≤ c) (h1 : c < 3) (wx : World) (hb : Blw w wx) => read_yes b r n p z c wx hn hzs hp (ht.blw hb) ((h.blw hb).rep) h0 h1 (by rw [hzl]; exact (tok_noughts n p).2))
  have HME := hid (fun (c : Int) (wx : World) (hb : Blw w wx) => meant_any (ecap := ecap) (hE.blw hb) hn hlen hval ((h.blw hb).gv) c)
  have HMM := hid hm
  have H := hid h
  have HC4 := hid hc4
  have v0 := h.c0
  have hr0 : (0 : Int) ≤ (r : Int) := Int.natCast_nonneg _
  have hr1 : (r : Int) < (n : Int) := by omega
  clear h hc4 hE hval ht hm hln hz hzl hzs hlen
  go_enter Tryz.func26, Tryz.ntmps26
  go_wp2_with fail
  refine HZ.out.mono ?_
  rintro e w1 ⟨rfl, hw1⟩
  subst w1
  go_wp2_with fail
  go_loopw [6] (fun i wr => ∃ k : Nat, k ≤ 3 ∧ i = .int .i64 k ∧ Blw w wr) (fun i _ => 3 - (intOf i).toNat)
  case atStart => exact ⟨0, by omega, rfl, Blw.rfl _⟩
  case round =>
    obtain ⟨k, hk, rfl, hb⟩ := hrel
    have HB := hid hb
    have u2 := (H.out.blw hb).c2
    have ux := (H.out.blw hb).xr
    by_cases hlt : k < 3
    · have HR3 := hid (HRD.out (k : Int) (by omega) (by omega) wr hb)
      obtain ⟨y, hy⟩ : ∃ y : ByteArray, y = ⟨(p.sumsTo (k : Int) 4).toArray⟩ := ⟨_, rfl⟩
      rw [← hy] at HR3
      have HM3 := hid (fun (wx : World) (hb : Blw w wx) => HME.out (k : Int) wx hb)
      rw [HMM.out, ← hy, ← HLN.out] at HM3
      obtain ⟨dg, hdg⟩ : ∃ dg : ByteArray, dg = ⟨(p.digsTo n).toArray⟩ := ⟨_, rfl⟩
      rw [← hdg] at HR3
      clear hy hb hdg
      go_wp2_with fail
      refine HR3.out.mono ?_
      rintro e w3 ⟨rfl, b3⟩
      have B3 := hid (HB.out.tr b3)
      have HS := hid (fun (wx : World) (hb : Blw w wx) => show (wx.cell? ⟨cb, 4, none⟩ = some (.slice ea len ecap) ∧ wx.cell? ⟨cb, 3, none⟩ = some (.slice (some ⟨kb, 0, none⟩) n ck) ∧ wx.cell? ⟨kb, r, none⟩ = some (.slice (some ⟨g, 0, none⟩) n n)) from ⟨cell_blw hb HC4.out, (H.out.blw hb).c3, (H.out.blw hb).kr⟩)
      clear b3 u2 ux
      go_wp2_with fail
      go_region_held3 (fun w' => w'.cell? ⟨cb, 4, none⟩ = some (.slice ea len ecap) ∧ w'.cell? ⟨cb, 3, none⟩ = some (.slice (some ⟨kb, 0, none⟩) n ck) ∧ w'.cell? ⟨kb, r, none⟩ = some (.slice (some ⟨g, 0, none⟩) n n)) (first | exact HS.out _ B3.out.dr | exact HS.out _ B4.out)
        (first
          | (go_at_call 68
             refine (HM3.out _ B3.out.dr).mono ?_
             rintro e w4 ⟨rfl, b4⟩
             have B4 := hid (B3.out.dr.tr b4)
             clear b4))
      all_goals
        go_wp2
        go_roundw
        case rel => exact ⟨k + 1, by omega, by go_num, B4.out⟩
        case measure => simp [intOf]; omega
    · have hkn : k = 3 := by omega
      subst hkn
      go_wp2
      go_ret
      exact ⟨rfl, HB.out⟩

theorem ev_vals {s : CS} (hI : Inv s) : ∀ e, e ∈ s.evs → -99 ≤ e.value ∧ e.value ≤ 99 := by
  intro e he
  obtain ⟨E, V, hC⟩ := hI.core
  obtain ⟨ds, d1, d2, d3⟩ := hC.evs
  rw [d3] at he
  obtain ⟨d, hd, rfl⟩ := List.mem_map.1 he
  obtain ⟨a, b⟩ := (d2 d).1 hd
  have hg := (hC.rep d.1 a).good d.1 d.2 b
  exact ⟨hg.v0, hg.v1⟩
theorem ev_len {s : CS} (hI : Inv s) : s.evs.length ≤ 27 := by
  obtain ⟨E, V, hC⟩ := hI.core
  exact evs_len hC.evs hC.n3 (fun r hr => (hC.rep r hr).bnd.nine r)
theorem meant_inv {s : CS} (hI : Inv s) {r : Nat} (hr : r < s.n) (c : Int) : meantTo s.evs (s.K r) c 4 = (s.p r).sumsTo c 4 := by
  obtain ⟨E, V, hC⟩ := hI.core
  have h := hC.rep r hr
  rw [h.is]
  exact meant_sums hC.named hC.evs (fun w hw => (hC.rep w hw).bnd.nine w) h.bnd hC.n3 (fun w hw => hC.tot r w hr hw) c 4
theorem reads_cl {w : World} {m : CM} {s : CS} (h : ClAt w m s) (hI : Inv s) {r : Nat} (hr : r < s.n) :
    Calls Tryz.prog 26 #[.pointer (some ⟨m.cb, 0, none⟩), .int .i64 r] w fun e w' => e = .returned (.bool true) ∧ Blw w w' := by
  obtain ⟨ea, ec, us, he, hE⟩ := h.evsIn hI
  exact reads_at (h.look hr) (by rw [h.cell, ← he]; rfl) hE h.n3 hr (ev_len hI) (ev_vals hI) (hI.pok hr) h.tab (meant_inv hI hr)
end Go.Proofs.YtalaldfgjgpacaaGreatDoor

namespace Go.Proofs.YtalaldfgjgpacaaGreatDoor
set_option linter.unusedVariables false
set_option linter.unusedSimpArgs false
open Go.RowKit
attribute [local go_sem ↓] Go.wp_at_zero Go.wp_at_succ

set_option maxRecDepth 100000 in
set_option maxHeartbeats 8000000 in
theorem runs_1 (J : CS → Prop) (ops : Nat → OpR) (len cap n : Nat) (ad : Option Addr) (mode hi : Int) (w : World) (h1 : 1 ≤ n) (h3 : n ≤ 3) (hm : mode = 0 ∨ mode = 1 ∨ mode = 2) (hlen : len ≤ 1048576) (hok : ∀ i, i < len → (ops i).ok) (hJ0 : J (CS.start n mode)) (hJ : ∀ s k o, Ran s k → s.n = n → J s → o.kind ≤ hi → J (s.step o)) (hL : 0 < len → ∃ sb off, ad = some ⟨sb, off, none⟩ ∧ Lies ops len sb off w ∧ sb < w.heap.size) (ht : Tab Tryz.prog w) :
    Calls Tryz.prog 15 #[.slice ad len cap, .int .i64 n, .int .i64 mode, .int .i64 hi, .int .i64 1] w fun e w' => e = .returned (.tuple #[.pointer (some ⟨w.heap.size, 0, none⟩), .bool true]) ∧ ∃ m s, RunAt J w w' m s n mode len := by
  have HST := hid (start_any n mode w h1 h3 ht)
  obtain ⟨cb, hcb⟩ : ∃ cb, cb = w.heap.size := ⟨_, rfl⟩
  rw [← hcb] at HST ⊢
  have HCB := hid hcb
  obtain ⟨F, hF⟩ : ∃ F : World → Prop, F = fun w' => ∃ m s, RunAt J w w' m s n mode len := ⟨_, rfl⟩
  rw [show (fun e w' => e = Ending.returned (.tuple #[.pointer (some ⟨cb, 0, none⟩), .bool true]) ∧ ∃ m s, RunAt J w w' m s n mode len) = fun e w' => e = Ending.returned (.tuple #[.pointer (some ⟨cb, 0, none⟩), .bool true]) ∧ F w' by rw [hF]]
  have HF := hid hF
  have HL := hid hL
  have HOK := hid hok
  have HJJ := hid (And.intro hJ0 hJ)
  have HM := hid hm
  clear ht hcb hF hL hok hJ0 hJ hm
  go_enter Tryz.func15, Tryz.ntmps15
  go_wp2_with fail
  refine HST.out.mono ?_
  rintro e w1 ⟨rfl, b1, m1, hc1, hcb1, ho1⟩
  have R1 : Hid (RunAt J w w1 m1 (CS.start n mode) n mode 0) := ⟨hc1, Ran.start h1 h3 mode, rfl, rfl, hcb1.trans HCB.out, b1, fun k hk => by have := ((ho1 k).1 hk).1; rw [HCB.out] at this; exact this, HJJ.out.1⟩
  clear b1 hc1 hcb1 ho1
  go_wp2_with fail
  go_loopw [13, 14] (fun ok i wr => ∃ (k : Nat) (m : CM) (s : CS), k ≤ len ∧ ok = .bool true ∧ i = .int .i64 k ∧ RunAt J w wr m s n mode k) (fun _ i _ => len - (intOf i).toNat)
  case atStart => exact ⟨0, _, _, by omega, rfl, rfl, R1.out⟩
  case round =>
    obtain ⟨k, m, s, hk, rfl, rfl, hR⟩ := hrel
    have HR := hid hR
    clear hR
    by_cases hlt : k < len
    · obtain ⟨sb, off, rfl, hLi, hsb⟩ := HL.out (by omega)
      obtain ⟨c0, c1, c2, c3, c4, c5, c6⟩ := (hLi.on (HR.out.bl.bk sb hsb)) k hlt
      clear hLi hsb
      have hok := HOK.out k hlt
      obtain ⟨o, ho⟩ : ∃ o, o = ops k := ⟨_, rfl⟩
      rw [← ho] at c0 c1 c2 c3 c4 c5 c6 hok
      clear ho
      obtain ⟨kd, r0, t0, a0, b0, c00, s0⟩ := o
      simp only at c0 c1 c2 c3 c4 c5 c6
      have HOO := hid hok
      clear hok
      obtain ⟨W2, hW2⟩ : ∃ W2, W2 = wr.alloc (.cells #[.int .i64 kd, .int .i64 r0, .int .i64 t0, .int .i64 a0, .int .i64 b0, .int .i64 c00, .string s0] 46) := ⟨_, rfl⟩
      have HW2 := hid hW2
      have b2 : Blw wr W2 := by rw [hW2]; exact (Blw.rfl wr).al _
      have R2 := hid (HR.out.blw b2)
      have hb2 : W2.heap[wr.heap.size]? = some (.cells #[.int .i64 kd, .int .i64 r0, .int .i64 t0, .int .i64 a0, .int .i64 b0, .int .i64 c00, .string s0] 46) := by rw [hW2]; exact hp_new wr _
      clear hW2 b2
      by_cases g2 : hi < kd
      · have d2 : decide (hi < kd) = true := by simpa using g2
        clear g2 hb2
        go_wp2_with fail
        try rw [← HW2.out]
        go_roundw
        case rel => exact ⟨k + 1, m, s, by omega, rfl, by go_num, R2.out.more (Nat.le_succ k)⟩
        case measure => simp [intOf]; omega
      · have d2 : decide (hi < kd) = false := by simpa using g2
        have HSTP := hid (step_cl R2.out.ran.inv R2.out.cl (R2.out.hmode ▸ HM.out) (Nat.le_trans R2.out.ran.lg (by omega)) (Nat.le_trans R2.out.ran.wi (by omega)) (Nat.le_trans R2.out.ran.ak (by omega)) ⟨kd, r0, t0, a0, b0, c00, s0⟩ HOO.out)
        rw [R2.out.cb, ← HCB.out] at HSTP
        have HNX := hid (fun (w' : World) (m' : CM) (hM : Moved W2 w' m m' (s.step ⟨kd, r0, t0, a0, b0, c00, s0⟩)) => R2.out.step hM (HJJ.out.2 s k ⟨kd, r0, t0, a0, b0, c00, s0⟩ R2.out.ran R2.out.hn R2.out.j (by show kd ≤ hi; omega)))
        have y0 : W2.cell? ⟨wr.heap.size, 0, none⟩ = some (.int .i64 kd) := by rw [blk_cell hb2]; rfl
        have y1 : W2.cell? ⟨wr.heap.size, 1, none⟩ = some (.int .i64 r0) := by rw [blk_cell hb2]; rfl
        have y2 : W2.cell? ⟨wr.heap.size, 2, none⟩ = some (.int .i64 t0) := by rw [blk_cell hb2]; rfl
        have y3 : W2.cell? ⟨wr.heap.size, 3, none⟩ = some (.int .i64 a0) := by rw [blk_cell hb2]; rfl
        have y4 : W2.cell? ⟨wr.heap.size, 4, none⟩ = some (.int .i64 b0) := by rw [blk_cell hb2]; rfl
        have y5 : W2.cell? ⟨wr.heap.size, 5, none⟩ = some (.int .i64 c00) := by rw [blk_cell hb2]; rfl
        have y6 : W2.cell? ⟨wr.heap.size, 6, none⟩ = some (.string s0) := by rw [blk_cell hb2]; rfl
        clear g2 hb2
        simp only [opArr] at HSTP
        go_wp2_with fail
        try rw [← HW2.out]
        refine HSTP.out.mono ?_
        rintro e w4 ⟨rfl, m', hM⟩
        obtain ⟨s', hs'⟩ : ∃ s', s' = s.step ⟨kd, r0, t0, a0, b0, c00, s0⟩ := ⟨_, rfl⟩
        rw [← hs'] at hM
        have R4 : Hid (RunAt J w w4 m' s' n mode (k + 1)) := by rw [hs'] at hM ⊢; exact HNX.out w4 m' hM
        clear hM hs' y0 y1 y2 y3 y4 y5 y6 c0 c1 c2 c3 c4 c5 c6
        go_wp2_with fail
        go_loopw [13, 16] (fun ok r w5 => ∃ j : Nat, j ≤ n ∧ r = .int .i64 j ∧ ok = .bool true ∧ Blw w4 w5) (fun _ r _ => n - (intOf r).toNat)
        case atStart => exact ⟨0, by omega, rfl, rfl, Blw.rfl _⟩
        case round =>
          obtain ⟨j, hj, rfl, rfl, hb5⟩ := hrel
          have HB5 := hid hb5
          clear hb5
          by_cases hj2 : j < n
          · have HQ := hid (reads_cl (R4.out.cl.blw HB5.out) R4.out.ran.inv (show j < s'.n by rw [R4.out.hn]; exact hj2))
            rw [R4.out.cb, ← HCB.out] at HQ
            go_wp2_with fail
            refine HQ.out.mono ?_
            rintro e w6 ⟨rfl, b6⟩
            have HB6 := hid (HB5.out.tr b6)
            clear b6
            go_wp2
            go_roundw
            case rel => exact ⟨j + 1, by omega, by go_num, rfl, HB6.out⟩
            case measure => simp [intOf]; omega
          · have hjn : j = n := by omega
            subst hjn
            go_wp2
            go_roundw
            case rel => exact ⟨k + 1, m', s', by omega, rfl, by go_num, R4.out.blw HB5.out⟩
            case measure => simp [intOf]; omega
    · have hkn : k = len := by omega
      subst hkn
      have FIN : Hid (F wr) := by
        show F _
        rw [HF.out]
        exact ⟨m, s, HR.out⟩
      go_wp2
      go_ret2
      exact ⟨rfl, FIN.out⟩
end Go.Proofs.YtalaldfgjgpacaaGreatDoor
