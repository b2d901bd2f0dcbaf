import Derived.Test.YtkeanpabacfdlaaGreatDoorW14
namespace Go.Proofs.YtkeanpabacfdlaaGreatDoor
set_option linter.unusedVariables false
set_option linter.unusedSimpArgs false
open Go.RowKit
variable {xt : Ext}
attribute [local go_sem ↓] Go.wp_at_zero Go.wp_at_succ run_load63 run_store63
attribute [local go_sem] blkOf_mk offOf_mk isPt_mk isRow_pc Has_drew HasW_drew rowOf_drew HasW_new

def cartB3 (c : Int) : Bool := decide (0 ≤ c) && decide (c < 3)
def itemB4 (c : Int) : Bool := decide (0 ≤ c) && decide (c < 4)

set_option maxHeartbeats 400000 in
theorem isCart_any (c : Int) (w : World) : Calls Tryz.prog 70 #[.int .i64 c] w fun e w' => e = .returned (.bool (cartB3 c)) ∧ w' = w := by
  by_cases h0 : 0 ≤ c
  · have h0' : decide (0 ≤ c) = true := by simpa using h0
    have HR : Hid (cartB3 c = decide (c < 3)) := by show cartB3 c = _; simp [cartB3, h0]
    generalize cartB3 c = r at *
    go_enter Tryz.func70, Tryz.ntmps70
    go_wp2
    go_ret
    exact ⟨by rw [HR.out]; rfl, rfl⟩
  · have h0' : decide (0 ≤ c) = false := by simpa using h0
    have HR : Hid (cartB3 c = false) := by show cartB3 c = _; simp [cartB3, h0]
    generalize cartB3 c = r at *
    go_enter Tryz.func70, Tryz.ntmps70
    go_wp2
    go_ret
    exact ⟨by rw [HR.out]; rfl, rfl⟩

set_option maxHeartbeats 400000 in
theorem isPlace_any (c it : Int) (w : World) : Calls Tryz.prog 62 #[.int .i64 c, .int .i64 it] w fun e w' => e = .returned (.bool (itemB4 it && cartB3 c)) ∧ w' = w := by
  by_cases h0 : 0 ≤ it
  · by_cases h4 : it < 4
    · have h0' : decide (it < 0) = false := by simp; omega
      have h4' : decide (4 ≤ it) = false := by simp; omega
      have HR : Hid ((itemB4 it && cartB3 c) = cartB3 c) := by show (itemB4 it && cartB3 c) = _; simp [itemB4, h0, h4]
      generalize (itemB4 it && cartB3 c) = r at *
      have HC := hid (isCart_any c w)
      generalize cartB3 c = r2 at *
      go_enter Tryz.func62, Tryz.ntmps62
      go_wp2_with fail
      refine HC.out.mono ?_
      rintro e w1 ⟨rfl, rfl⟩
      go_wp2
      go_ret
      exact ⟨by rw [HR.out]; rfl, rfl⟩
    · have h0' : decide (it < 0) = false := by simp; omega
      have h4' : decide (4 ≤ it) = true := by simp; omega
      have HR : Hid ((itemB4 it && cartB3 c) = false) := by show (itemB4 it && cartB3 c) = _; simp [itemB4, h4]
      generalize (itemB4 it && cartB3 c) = r at *
      go_enter Tryz.func62, Tryz.ntmps62
      go_wp2
      go_ret
      exact ⟨by rw [HR.out]; rfl, rfl⟩
  · have h0' : decide (it < 0) = true := by simp; omega
    have HR : Hid ((itemB4 it && cartB3 c) = false) := by show (itemB4 it && cartB3 c) = _; simp [itemB4, h0]
    generalize (itemB4 it && cartB3 c) = r at *
    go_enter Tryz.func62, Tryz.ntmps62
    go_wp2
    go_ret
    exact ⟨by rw [HR.out]; rfl, rfl⟩

set_option maxRecDepth 100000 in
set_option maxHeartbeats 1000000 in
theorem state_any (b me n : Nat) (p : Pc) (w : World) (hn : n ≤ 3) (hp : p.ok) (h : w.heap[b]? = some (.cells (repArr me n p xt) 99)) :
    Calls Tryz.prog 36 #[.pointer (some ⟨b, 0, none⟩)] w fun e w' => e = .returned (.string ⟨(p.digsTo n ++ [59] ++ p.entTo 12).toArray⟩) ∧ Blw w w' := by
  have HD := hid (counts_any b me n p w hn h)
  have HE := hid (fun wx => entriesText_any p hp wx)
  have H := hid h
  have l1 := digsTo_len p n
  have l2 := entTo_len p 12
  have HX : Hid (p.digsTo n ++ [59] ++ p.entTo 12 = p.digsTo n ++ [59] ++ p.entTo 12) := rfl
  obtain ⟨t, ht⟩ : ∃ t, t = p.digsTo n ++ [59] ++ p.entTo 12 := ⟨_, rfl⟩
  rw [← ht]
  have HT := hid ht
  clear ht HX hp h
  generalize p.digsTo n = t1 at *
  generalize p.entTo 12 = t2 at *
  go_enter Tryz.func36, Tryz.ntmps36
  go_wp2_with fail
  refine HD.out.mono ?_
  rintro e w1 ⟨rfl, b1⟩
  have g1 := b1.bk' H.out
  have hrow := rowOf_rep g1
  have hhas := Has_rep g1
  have B1 := hid b1
  clear g1 b1
  go_wp2_with fail
  refine (HE.out _).mono ?_
  rintro e w2 ⟨rfl, b2⟩
  have B2 := hid (B1.out.tr b2)
  clear b2 hrow hhas
  go_wp2
  go_ret
  exact ⟨ret_str (by rw [HT.out]; simp only [bytes_app]), B2.out⟩

/-- The dots of a cart's entries. -/
def Pc.cartTo (p : Pc) (c : Int) : Nat → Pc
  | 0 => Pc.empty
  | k + 1 => (p.cartTo c k).join (p.dotsOf c (k : Int))

def CartRel (b me n : Nat) (p : Pc) (c : Int) (w : World) (k : Nat) (wr : World) : Prop :=
  wr.heap[b]? = some (.cells (repArr me n p xt) 99) ∧ wr.heap[w.heap.size]? = some (.cells Tryz.zeroCells97 97) ∧ wr.heap[w.heap.size + 1]? = some (.cells (p.cartTo c k).arr 97) ∧ Blw w wr

theorem CartRel.start {b me n : Nat} {p : Pc} (c : Int) {w : World} (h : w.heap[b]? = some (.cells (repArr me n p xt) 99)) : CartRel (xt := xt) b me n p c w 0 ((w.alloc (.cells Tryz.zeroCells97 97)).alloc (.cells Tryz.zeroCells97 97)) := by
  refine ⟨hp_old _ (by have := lt_of_blk h; simp; omega) (hp_old _ (lt_of_blk h) h), hp_old _ (by simp) (hp_new _ _), ?_, ((Blw.rfl _).al _).al _⟩
  have := hp_new (w.alloc (.cells Tryz.zeroCells97 97)) (.cells Tryz.zeroCells97 97)
  rw [show (p.cartTo c 0).arr = Tryz.zeroCells97 from zero63.symm]
  simpa using this

set_option maxRecDepth 100000 in
set_option maxHeartbeats 1000000 in
theorem dotsOfCart_any (b me n : Nat) (p : Pc) (c : Int) (w : World) (h : w.heap[b]? = some (.cells (repArr me n p xt) 99)) :
    Calls Tryz.prog 71 #[.pointer (some ⟨b, 0, none⟩), .int .i64 c] w fun e w' => e = .returned (.agg (p.cartTo c 4).arr) ∧ Blw w w' := by
  have H := hid (CartRel.start c h)
  have hbw := lt_of_blk h
  clear h
  go_enter Tryz.func71, Tryz.ntmps71
  go_wp2
  go_loopw [6] (fun i wr => ∃ k : Nat, k ≤ 4 ∧ i = .int .i64 k ∧ CartRel (xt := xt) b me n p c w k wr) (fun i _ => 4 - (intOf i).toNat)
  case atStart => exact ⟨0, by omega, rfl, H.out⟩
  case round =>
    obtain ⟨k, hk, rfl, hR⟩ := hrel
    have HR := hid hR
    by_cases hlt : k < 4
    · have HD := hid (fun wx => dotsOf_any p c (k : Int) wx)
      have HJ := hid (fun wx => join_any (p.cartTo c k) (p.dotsOf c (k : Int)) wx)
      have hrow := rowOf_rep hR.1
      have hhas := Has_rep hR.1
      clear hR
      go_wp2_with fail
      refine (HD.out _).mono ?_
      rintro e w1 ⟨rfl, b1⟩
      have g0 := b1.bk' HR.out.1
      have g1 := b1.bk' HR.out.2.1
      have g2 := b1.bk' HR.out.2.2.1
      have s2 := lt_of_blk g2
      have hb3 : Blw w (putRowAt (w1.alloc (.cells Tryz.zeroCells97 97)) w1.heap.size 0 (.agg (p.dotsOf c (k : Int)).arr)) := put_blw ((HR.out.2.2.2.tr b1).al _) _ _ (HR.out.2.2.2.tr b1).sz
      have k0 : (putRowAt (w1.alloc (.cells Tryz.zeroCells97 97)) w1.heap.size 0 (.agg (p.dotsOf c (k : Int)).arr)).heap[b]? = some (.cells (repArr me n p xt) 99) := by rw [put_ne (Nat.ne_of_lt (lt_of_blk g0))]; exact hp_old _ (lt_of_blk g0) g0
      have k1 : (putRowAt (w1.alloc (.cells Tryz.zeroCells97 97)) w1.heap.size 0 (.agg (p.dotsOf c (k : Int)).arr)).heap[w.heap.size]? = some (.cells Tryz.zeroCells97 97) := by rw [put_ne (Nat.ne_of_lt (lt_of_blk g1))]; exact hp_old _ (lt_of_blk g1) g1
      have k2 : (putRowAt (w1.alloc (.cells Tryz.zeroCells97 97)) w1.heap.size 0 (.agg (p.dotsOf c (k : Int)).arr)).heap[w.heap.size + 1]? = some (.cells (p.cartTo c k).arr 97) := by rw [put_ne (Nat.ne_of_lt s2)]; exact hp_old _ s2 g2
      have r2 := rowOf_pc k2
      have h2 := Has_pc k2
      have r3 := rowOf_pc (put_new (w := w1) (q := p.dotsOf c (k : Int)))
      have h3 := Has_pc (put_new (w := w1) (q := p.dotsOf c (k : Int)))
      have KK := hid (And.intro k0 (And.intro k1 (And.intro k2 hb3)))
      clear hrow hhas g0 g1 g2 s2 hb3 k0 k1 k2 b1
      go_wp2_with fail
      refine (HJ.out _).mono ?_
      rintro e w4 ⟨rfl, b4⟩
      have m0 := b4.bk' KK.out.1
      have m1 := b4.bk' KK.out.2.1
      have m2 := b4.bk' KK.out.2.2.1
      have m3 := KK.out.2.2.2.tr b4
      have hW := HasW_pc m2
      have Hn := hid (show CartRel (xt := xt) b me n p c w (k + 1) (putRowAt w4 (w.heap.size + 1) 0 (.agg ((p.cartTo c k).join (p.dotsOf c (k : Int))).arr)) from
        ⟨by rw [put_ne (by omega)]; exact m0, by rw [put_ne (by omega)]; exact m1, put_pc m2 (by rw [Pc.size]), put_blw m3 _ _ (by omega)⟩)
      clear m0 m1 m2 m3 b4 r2 h2 r3 h3
      go_wp2
      go_roundw
      case rel => exact ⟨k + 1, by omega, by go_num, Hn.out⟩
      case measure => simp [intOf]; omega
    · have hk4 : k = 4 := by omega
      subst hk4
      have r2 := rowOf_pc hR.2.2.1
      have h2 := Has_pc hR.2.2.1
      have hW := HasW_of hR.2.1 zle63
      have hz := put_pc (q := p.cartTo c 4) hR.2.1 zsize63
      clear hR
      go_wp2
      exact bodyPost_ret (results_cell_row rfl _ _ w.heap.size 97 (p.cartTo c 4).arr (0, 0) _ (by rfl) hz Tryz.underlying97 rfl (by rw [size63, Pc.size])) rfl ⟨rfl, put_blw HR.out.2.2.2 _ _ (Nat.le_refl _)⟩
end Go.Proofs.YtkeanpabacfdlaaGreatDoor
