import Derived.Test.YtalaldfgjgpacaaGreatDoorHAE
import Derived.Test.YtalaldfgjgpacaaGreatDoorHAK
import Derived.Laws.ResultCell
namespace Go.Proofs.YtalaldfgjgpacaaGreatDoor
set_option linter.unusedVariables false
set_option linter.unusedSimpArgs false
open Go.RowKit
attribute [local go_sem ↓] Go.wp_at_zero Go.wp_at_succ run_load63 run_store63
attribute [local go_sem] blkOf_mk offOf_mk isPt_mk isRow_pc Has_drew HasW_drew rowOf_drew HasW_new Has_alloc rowOf_alloc

/-- What the first dots of a text make. -/
def gDots (l : Bs) : Nat → Pc
  | 0 => Pc.empty
  | k + 1 => (gDots l k).dotText ((l.drop (2 * k)).take 2)
/-- What the first entries make of it. -/
def gEnts (p : Pc) (l : Bs) (e : Nat) : Nat → Pc
  | 0 => p
  | k + 1 => (gEnts p l e k).entText ((l.drop (e + 1 + 7 * k)).take 7)
def gatherL (l : Bs) : Pc := gEnts (gDots l (endTo l / 2)) l (endTo l) ((l.length - (endTo l + 1)) / 7)

theorem endTo_le (l : Bs) : endTo l ≤ l.length := by
  unfold endTo; exact (List.takeWhile_prefix _).length_le

theorem put_pcG {w : World} {b : Nat} {C : Array Value} {t : TypeId} (q : Pc) (h : w.heap[b]? = some (.cells C t)) (hC : C.size = 135) : (putRowAt w b 0 (.agg q.arr)).heap[b]? = some (.cells q.arr t) := hp_store q h hC
theorem put_blwG {w w' : World} {b : Nat} (h : Blw w w') (hb : w.heap.size ≤ b) (v : Value) : Blw w (putRowAt w' b 0 v) := h.scs _ _ _ hb

set_option maxRecDepth 100000 in
set_option maxHeartbeats 4000000 in
theorem gather_any (l : Bs) (w : World) (hl : l.length ≤ 1000000) :
    Calls Tryz.prog 128 #[.string ⟨l.toArray⟩] w fun e w' => e = .returned (.agg (gatherL l).arr) ∧ Blw w w' := by
  obtain ⟨y, hy⟩ : ∃ y : ByteArray, y = ⟨l.toArray⟩ := ⟨_, rfl⟩
  have hys : y.size = l.length := by rw [hy, bs_size]
  have HX : Hid (∀ i j, y.extract i j = ByteArray.mk ((l.drop i).take (j - i)).toArray) := by rw [hy]; exact fun i j => bs_extract l i j
  have HE := hid (fun wx => dotsEnd_any l wx (by omega))
  rw [← hy] at HE ⊢
  have hel := endTo_le l
  have HG : Hid (gatherL l = gEnts (gDots l (endTo l / 2)) l (endTo l) ((l.length - (endTo l + 1)) / 7)) := rfl
  have HD := hid (fun p t wx h => withDotText_any p t wx h)
  have HN := hid (fun p t wx h => withEntryText_any p t wx h)
  generalize endTo l = en at *
  obtain ⟨w1, hw1⟩ : ∃ w1, w1 = (w.alloc (.cells Tryz.zeroCells65 65)).alloc (.cells Tryz.zeroCells65 65) := ⟨_, rfl⟩
  have hz : w1.heap[w.heap.size]? = some (.cells Tryz.zeroCells65 65) := by rw [hw1]; exact hp_old _ (by simp) (hp_new _ _)
  have hg : w1.heap[w.heap.size + 1]? = some (.cells (gDots l 0).arr 65) := by rw [hw1, show (gDots l 0).arr = Tryz.zeroCells65 from zero63.symm]; exact hp_new2 w _ _
  have B1 : Blw w w1 := by rw [hw1]; exact ((Blw.rfl _).al _).al _
  have S1 := hid (And.intro hz (And.intro hg B1))
  clear hz hg B1 hy
  go_enter Tryz.func128, Tryz.ntmps128
  go_wp2_with fail
  rw [← hw1]
  clear hw1
  refine (HE.out _).mono ?_
  rintro e w2 ⟨rfl, hw2⟩
  subst w2
  go_wp2_with fail
  go_loopw [5] (fun i wr => ∃ k : Nat, 2 * k ≤ en ∧ i = .int .i64 ((2 * k : Nat) : Int) ∧ wr.heap[w.heap.size]? = some (.cells Tryz.zeroCells65 65) ∧ wr.heap[w.heap.size + 1]? = some (.cells (gDots l k).arr 65) ∧ Blw w wr) (fun i _ => en - (intOf i).toNat)
  case atStart => exact ⟨0, by omega, rfl, S1.out⟩
  case round =>
    clear S1
    obtain ⟨k, hk, rfl, hz, hg, hb⟩ := hrel
    have S := hid (And.intro hz (And.intro hg hb))
    by_cases hlt : 2 * k + 2 ≤ en
    · have HC := hid (HD.out (gDots l k) ((l.drop (2 * k)).take 2))
      have HX1 : Hid (y.extract (2 * k) (2 * k + 2) = ByteArray.mk ((l.drop (2 * k)).take 2).toArray) := by show _ = _; rw [HX.out]; simp
      have HS : Hid (gDots l (k + 1) = (gDots l k).dotText ((l.drop (2 * k)).take 2)) := rfl
      have tl : ((l.drop (2 * k)).take 2).length ≤ 1000000 := by simp; omega
      have hrow := rowOf_pc hg
      have hhas := Has_pc hg
      have hz0 : w.heap.size + 1 < wr.heap.size := (Array.getElem?_eq_some_iff.1 hg).1
      clear hz hg hb
      generalize ha : 2 * k = a at *
      have HA := hid ha
      clear ha
      have s0 : (0 : Int) ≤ (a : Int) := Int.natCast_nonneg _
      have s1 : (a : Int) ≤ (a : Int) + 2 := by omega
      have s2 : (a : Int) + 2 ≤ (y.size : Int) := by omega
      have s2' : (a : Int) + 2 ≤ (en : Int) := by omega
      have s3 : ((a : Int) + 2).toNat = a + 2 := by omega
      have s4 : (0 : Int) ≤ (a : Int) + 2 := by omega
      have n2 : a + 2 ≤ y.size := by omega
      have s5 : IntKind.i64.wrap ((a : Int) + 2) = (a : Int) + 2 := by rw [IntKind.wrap_i64]; omega
      have HYS := hid hys
      clear hys
      go_wp2_with fail
      go_upto_region 6 with fail
      go_region_with (first | (go_at_call 151; rw [HX1.out]; refine (HC.out _ tl).mono ?_; rintro e w3 ⟨rfl, b3⟩; have hW3 : HasW w3 (w.heap.size + 1) 0 := HasW_pc (b3.bk' (show wr.drew.heap[w.heap.size + 1]? = _ from S.out.2.1))))
      have K3 := hid (b3.bk' (show wr.drew.heap[w.heap.size + 1]? = _ from S.out.2.1))
      have Z3 := hid (b3.bk' (show wr.drew.heap[w.heap.size]? = _ from S.out.1))
      have hw4 : Hid ((putRowAt w3 (w.heap.size + 1) 0 (.agg (gDots l (k + 1)).arr)).heap[w.heap.size]? = some (.cells Tryz.zeroCells65 65) ∧ (putRowAt w3 (w.heap.size + 1) 0 (.agg (gDots l (k + 1)).arr)).heap[w.heap.size + 1]? = some (.cells (gDots l (k + 1)).arr 65) ∧ Blw w (putRowAt w3 (w.heap.size + 1) 0 (.agg (gDots l (k + 1)).arr))) :=
        ⟨by rw [put_ne (by omega)]; exact Z3.out, put_pc K3.out (Pc.size _), put_blw ((S.out.2.2.dr).tr b3) _ _ (by omega)⟩
      rw [← HS.out]
      clear K3 Z3 hW3 b3 hrow hhas
      generalize putRowAt w3 (w.heap.size + 1) 0 (.agg (gDots l (k + 1)).arr) = w4 at *
      go_wp2_with fail
      go_roundw
      case rel => exact ⟨k + 1, by have := HA.out; omega, by have := HA.out; subst this; go_num, hw4.out⟩
      case measure => simp [intOf]; omega
    · have hke : k = en / 2 := by omega
      have hd : decide (((2 * k : Nat) : Int) + 2 ≤ (en : Int)) = false := by simp; omega
      have n1 : ¬ (((2 * k : Nat) : Int) + 2 ≤ (en : Int)) := by omega
      have n2 : ¬ (2 * k + 2 ≤ en) := by omega
      clear hz hg hb
      subst hke
      have HYS := hid hys
      generalize hp0 : gDots l (en / 2) = p0 at *
      go_wp2_with fail
      have HLL : Hid (y.size = l.length) := HYS.out
      go_loopw [6] (fun i wr => ∃ k : Nat, k ≤ (y.size - (en + 1)) / 7 ∧ i = .int .i64 ((en + 1 + 7 * k : Nat) : Int) ∧ wr.heap[w.heap.size]? = some (.cells Tryz.zeroCells65 65) ∧ wr.heap[w.heap.size + 1]? = some (.cells (gEnts p0 l en k).arr 65) ∧ Blw w wr) (fun i _ => y.size + 8 - (intOf i).toNat)
      case atStart => exact ⟨0, by omega, rfl, S.out⟩
      case round =>
        clear S
        obtain ⟨k, hk', rfl, hz, hg, hb⟩ := hrel
        have S := hid (And.intro hz (And.intro hg hb))
        have hen := hel
        rw [← hys] at hel hl
        by_cases hlt : en + 1 + 7 * k + 7 ≤ y.size
        · have tl : ((l.drop (en + 1 + 7 * k)).take 7).length = 7 := by simp; omega
          have HC := hid (HN.out (gEnts p0 l en k) ((l.drop (en + 1 + 7 * k)).take 7))
          have HX1 : Hid (y.extract (en + 1 + 7 * k) (en + 1 + 7 * k + 7) = ByteArray.mk ((l.drop (en + 1 + 7 * k)).take 7).toArray) := by show _ = _; rw [HX.out]; simp
          have HS : Hid (gEnts p0 l en (k + 1) = (gEnts p0 l en k).entText ((l.drop (en + 1 + 7 * k)).take 7)) := rfl
          have hrow := rowOf_pc hg
          have hhas := Has_pc hg
          have hz0 : w.heap.size + 1 < wr.heap.size := (Array.getElem?_eq_some_iff.1 hg).1
          clear hz hg hb hd n1 n2
          generalize ha : en + 1 + 7 * k = a at *
          have HA := hid ha
          clear ha
          have s0 : (0 : Int) ≤ (a : Int) := Int.natCast_nonneg _
          have s1 : (a : Int) ≤ (a : Int) + 7 := by omega
          have s2 : (a : Int) + 7 ≤ (y.size : Int) := by omega
          have s3 : ((a : Int) + 7).toNat = a + 7 := by omega
          have s4 : (0 : Int) ≤ (a : Int) + 7 := by omega
          have s5 : IntKind.i64.wrap ((a : Int) + 7) = (a : Int) + 7 := by rw [IntKind.wrap_i64]; omega
          clear hys
          go_wp2_with fail
          go_upto_region 10 with fail
          go_region_with (first | (go_at_call 152; rw [HX1.out]; refine (HC.out _ tl).mono ?_; rintro e w3 ⟨rfl, b3⟩; have hW3 : HasW w3 (w.heap.size + 1) 0 := HasW_pc (b3.bk' (show wr.drew.heap[w.heap.size + 1]? = _ from S.out.2.1))))
          have K3 := hid (b3.bk' (show wr.drew.heap[w.heap.size + 1]? = _ from S.out.2.1))
          have Z3 := hid (b3.bk' (show wr.drew.heap[w.heap.size]? = _ from S.out.1))
          have hw4 : Hid ((putRowAt w3 (w.heap.size + 1) 0 (.agg (gEnts p0 l en (k + 1)).arr)).heap[w.heap.size]? = some (.cells Tryz.zeroCells65 65) ∧ (putRowAt w3 (w.heap.size + 1) 0 (.agg (gEnts p0 l en (k + 1)).arr)).heap[w.heap.size + 1]? = some (.cells (gEnts p0 l en (k + 1)).arr 65) ∧ Blw w (putRowAt w3 (w.heap.size + 1) 0 (.agg (gEnts p0 l en (k + 1)).arr))) :=
            ⟨by rw [put_ne (by omega)]; exact Z3.out, put_pc K3.out (Pc.size _), put_blw ((S.out.2.2.dr).tr b3) _ _ (by omega)⟩
          rw [← HS.out]
          clear K3 Z3 hW3 b3 hrow hhas
          generalize putRowAt w3 (w.heap.size + 1) 0 (.agg (gEnts p0 l en (k + 1)).arr) = w4 at *
          go_wp2_with fail
          go_roundw
          case rel => exact ⟨k + 1, by have := HA.out; omega, by have := HA.out; subst this; go_num, hw4.out⟩
          case measure => simp [intOf]; omega
        · have hke : k = (y.size - (en + 1)) / 7 := by omega
          have HR : Hid (gatherL l = gEnts p0 l en k) := by show _ = _; rw [HG.out, hke, HYS.out]
          have m1 : ¬ (((en + 1 + 7 * k : Nat) : Int) + 7 ≤ (y.size : Int)) := by omega
          have m2 : decide (((en + 1 + 7 * k : Nat) : Int) + 7 ≤ (y.size : Int)) = false := by simpa using m1
          have HI := hid (show (Tryz.prog.info? 65).map (·.size) = some (gEnts p0 l en k).arr.size by rw [size63, Pc.size])
          have HI' := hid (show (Tryz.prog.info? 65).map (·.size) = some (gEnts p0 l en k).cells.length by rw [size63, Pc.len])
          have hrow := rowOf_pc hg
          have hhas := Has_pc hg
          have hhw : HasW wr w.heap.size 0 := HasW_of hz zle63
          clear hke hd n1 n2 hg hz hb
          generalize ha : en + 1 + 7 * k = a at *
          clear hys
          go_wp2_with fail
          exact bodyPost_ret (results_cell_row rfl _ _ w.heap.size 65 (gEnts p0 l en k).arr (0, 0) _ (by rfl) (put_pc S.out.1 zsize63) Tryz.underlying65 rfl HI.out) rfl ⟨by rw [HR.out], put_blw S.out.2.2 _ _ (by omega)⟩
end Go.Proofs.YtalaldfgjgpacaaGreatDoor

namespace Go.Proofs.YtalaldfgjgpacaaGreatDoor
set_option linter.unusedVariables false
set_option linter.unusedSimpArgs false
open Go.RowKit
attribute [local go_sem ↓] Go.wp_at_zero Go.wp_at_succ run_load63 run_store63
attribute [local go_sem] blkOf_mk offOf_mk isPt_mk isRow_pc Has_drew HasW_drew rowOf_drew HasW_new Has_alloc rowOf_alloc

theorem results_row_tmp {P : Program} {fn : Func} {p u : Tmp} {ty : TypeId} (h : fn.results = #[.cell p ty, .tmp u]) (tmps : Array Value) (w : World) (g : Nat) (t : TypeId) (cs : Array Value) (fr : Nat × Nat) (d : TypeDesc)
    (hp : tmps.getD p undef = .pointer (some ⟨g, 0, none⟩)) (hg : w.heap[g]? = some (.cells cs t fr))
    (hu : P.underlying ty = some d) (hd : (match d with | .struct _ | .array _ _ => true | _ => false) = true) (hi : (P.info? ty).map (·.size) = some cs.size) :
    (results fn tmps).run P w = .ok (.tuple #[.agg cs, tmps.getD u undef]) w := by
  rw [results_cell_tmp h, hp]
  simp [asAddr, run_loadVar_row w g t ty cs fr d hg hu hd hi]

theorem Pc.ok.dotT {p : Pc} (h : p.ok) (t : Bs) : (p.dotText t).ok := by
  unfold Pc.dotText
  split
  · unfold Pc.withDot
    split
    · intro r i hr hi hf
      unfold Pc.put at hf ⊢
      split at hf
      · rename_i e
        rw [if_pos e]
        obtain ⟨rfl, rfl⟩ := e
        have := h _ _ hr hi hf
        exact ⟨rfl, this.2⟩
      · rename_i e
        rw [if_neg e]
        exact h r i hr hi hf
    · exact h
  · exact h

theorem Pc.ok.withEnt {p : Pc} (h : p.ok) (k n : Nat) (c it v : Int) : (p.withEnt k n c it v).ok := by
  unfold Pc.withEnt
  split
  · rename_i e
    simp only [entOk, Bool.and_eq_true, decide_eq_true_eq, Bool.not_eq_true', Bool.or_eq_false_iff, decide_eq_false_iff_not] at e
    intro r i hr hi hf
    unfold Pc.put at hf ⊢
    split at hf
    · rename_i e'
      rw [if_pos e']
      exact ⟨rfl, by show (0 : Int) ≤ c; omega, by show c < (3 : Int); omega, by show (0 : Int) ≤ it; omega, by show it < (4 : Int); omega, e.2.2.2.1, e.2.2.2.2⟩
    · rename_i e'
      rw [if_neg e']
      exact h r i hr hi hf
  · exact h
theorem Pc.ok.entT {p : Pc} (h : p.ok) (t : Bs) : (p.entText t).ok := by
  unfold Pc.entText
  cases (okD ((t.drop 2).take 2) && okD ((t.drop 5).take 2))
  · exact h
  · exact h.withEnt _ _ _ _ _

theorem Pc.empty_ok : Pc.empty.ok := fun r i _ _ hf => by simp [Pc.empty, Sl.zero] at hf
theorem gDots_ok (l : Bs) (k : Nat) : (gDots l k).ok := by
  induction k with
  | zero => exact Pc.empty_ok
  | succ k ih => exact ih.dotT _
theorem gEnts_ok {p : Pc} (h : p.ok) (l : Bs) (e k : Nat) : (gEnts p l e k).ok := by
  induction k with
  | zero => exact h
  | succ k ih => exact ih.entT _
theorem gather_ok (l : Bs) : (gatherL l).ok := gEnts_ok (gDots_ok _ _) _ _ _

/-- Whether a text is a piece, and which. -/
def readOk (l : Bs) : Bool := (gatherL l).text == l
def readP (l : Bs) : Pc := if readOk l then gatherL l else Pc.empty

theorem isRow_zero63 : isRow (.agg Tryz.zeroCells65) := by rw [zero63]; exact isRow_pc _
attribute [local go_sem] isRow_zero63
set_option maxRecDepth 100000 in
set_option maxHeartbeats 4000000 in
theorem pread_any (l : Bs) (w : World) (hl : l.length ≤ 1000000) :
    Calls Tryz.prog 71 #[.string ⟨l.toArray⟩] w fun e w' => e = .returned (.tuple #[.agg (readP l).arr, .bool (readOk l)]) ∧ Blw w w' := by
  have HG := hid (fun wx => gather_any l wx hl)
  have HT := hid (fun wx => text_any (gatherL l) (gather_ok l) wx)
  have HO : Hid (readOk l = ((gatherL l).text == l)) := rfl
  have HP : Hid (readP l = if readOk l then gatherL l else Pc.empty) := rfl
  generalize gatherL l = q at *
  go_enter Tryz.func71, Tryz.ntmps71
  go_wp2_with fail
  refine (HG.out _).mono ?_
  rintro e w1 ⟨rfl, b1⟩
  have Z1 := hid (b1.bk' (hp_new w (.cells Tryz.zeroCells65 65)))
  have B1 := hid (Blw.tr ((Blw.rfl w).al _) b1)
  clear b1
  go_upto_region 2 with fail
  obtain ⟨w2, hw2⟩ : ∃ w2, w2 = putRowAt (w1.alloc (.cells Tryz.zeroCells65 65)) w1.heap.size 0 (.agg q.arr) := ⟨_, rfl⟩
  have hlt : w.heap.size < w1.heap.size := (Array.getElem?_eq_some_iff.1 Z1.out).1
  have Z2 : Hid (w2.heap[w.heap.size]? = some (.cells Tryz.zeroCells65 65)) := by rw [hw2]; exact (put_ne (by omega)).trans (hp_old _ hlt Z1.out)
  have K2 : Hid (w2.heap[w1.heap.size]? = some (.cells q.arr 65)) := by rw [hw2]; exact put_new
  have B2 : Hid (Blw w w2) := by rw [hw2]; exact put_blw (B1.out.al _) _ _ (by omega)
  rw [← hw2]
  clear hw2 Z1 B1
  generalize w1.heap.size = c at *
  have hrow := rowOf_pc K2.out
  have hhas := Has_pc K2.out
  go_wp2_with fail
  refine (HT.out _).mono ?_
  rintro e w3 ⟨rfl, b3⟩
  have Z3 := hid (b3.bk' Z2.out)
  have K3 := hid (b3.bk' K2.out)
  have B3 := hid (B2.out.tr b3)
  clear Z2 K2 B2 b3 hrow hhas
  have hrow := rowOf_pc K3.out
  have hhas := Has_pc K3.out
  have hhw : HasW w3 w.heap.size 0 := HasW_of Z3.out zle63
  have HI := hid (show (Tryz.prog.info? 65).map (·.size) = some (readP l).arr.size by rw [size63, Pc.size])
  cases hok : readOk l
  · have hq : ¬ q.text = l := by have := HO.out; rw [hok] at this; exact fun h => by rw [h] at this; simp at this
    have hrp : readP l = Pc.empty := by rw [HP.out, hok]; rfl
    have HRP := hid hrp
    rw [hrp, ← zero63] at HI
    clear hrp HT HG HP HO
    have h1 : ((ByteArray.mk q.text.toArray).toList == (ByteArray.mk l.toArray).toList) = false := by rw [bs_toList, bs_toList, beq_eq_false_iff_ne]; exact hq
    generalize ByteArray.mk q.text.toArray = X at *
    generalize ByteArray.mk l.toArray = y at *
    go_wp2_with fail
    have HK : (putRowAt w3 w.heap.size 0 (.agg Tryz.zeroCells65)).heap[w.heap.size]? = some (.cells Tryz.zeroCells65 65) := by rw [zero63]; exact put_pc Z3.out zsize63
    have HB := put_blw B3.out 0 (.agg Tryz.zeroCells65) (Nat.le_refl w.heap.size)
    have HV : (Value.agg (readP l).arr) = .agg Tryz.zeroCells65 := by rw [HRP.out, ← zero63]
    rw [HV, hok]
    generalize putRowAt w3 w.heap.size 0 (.agg Tryz.zeroCells65) = w4 at *
    clear HV hrow hhas hhw
    generalize Tryz.zeroCells65 = Z at *
    exact bodyPost_ret (results_row_tmp rfl _ _ w.heap.size 65 Z (0, 0) _ (by rfl) HK Tryz.underlying65 rfl HI.out) rfl ⟨rfl, HB⟩
  · have hq : q.text = l := by have := HO.out; rw [hok] at this; exact eq_of_beq this.symm
    have hrp : readP l = q := by rw [HP.out, hok]; rfl
    rw [hrp] at HI
    have HRP := hid hrp
    clear hrp
    rw [hq]
    clear HT HG HP HO
    clear hq
    generalize ByteArray.mk l.toArray = y at *
    go_wp2_with fail
    exact bodyPost_ret (results_row_tmp rfl _ _ w.heap.size 65 q.arr (0, 0) _ (by rfl) (put_pc Z3.out zsize63) Tryz.underlying65 rfl HI.out) rfl ⟨by rw [HRP.out, hok]; rfl, put_blw B3.out _ _ (by omega)⟩
end Go.Proofs.YtalaldfgjgpacaaGreatDoor

namespace Go.Proofs.YtalaldfgjgpacaaGreatDoor
set_option linter.unusedVariables false
set_option linter.unusedSimpArgs false

/-- What gather made is canonical. -/
theorem canon_dotT {p : Pc} (h : p.canon) (t : Bs) : (p.dotText t).canon := by
  unfold Pc.dotText
  split
  · unfold Pc.withDot
    split
    · intro r i hr hi hf
      unfold Pc.put at hf ⊢
      split at hf
      · rename_i e
        rw [if_pos e]
        obtain ⟨rfl, rfl⟩ := e
        exact h _ _ hr hi hf
      · rename_i e
        rw [if_neg e]
        exact h r i hr hi hf
    · exact h
  · exact h
theorem canon_withE {p : Pc} (h : p.canon) (k n : Nat) (c it v : Int) : (p.withEnt k n c it v).canon := by
  unfold Pc.withEnt
  split
  · intro r i hr hi hf
    unfold Pc.put at hf ⊢
    split at hf
    · cases hf
    · rename_i e
      rw [if_neg e]
      exact h r i hr hi hf
  · exact h
theorem canon_entT {p : Pc} (h : p.canon) (t : Bs) : (p.entText t).canon := by
  unfold Pc.entText
  cases (okD ((t.drop 2).take 2) && okD ((t.drop 5).take 2))
  · exact h
  · exact canon_withE h _ _ _ _ _
theorem canon_gDots (l : Bs) (k : Nat) : (gDots l k).canon := by
  induction k with
  | zero => intro r i _ _ _; simp [gDots, Pc.empty, Sl.zero]
  | succ k ih => exact canon_dotT ih _
theorem canon_gEnts {p : Pc} (h : p.canon) (l : Bs) (e k : Nat) : (gEnts p l e k).canon := by
  induction k with
  | zero => exact h
  | succ k ih => exact canon_entT ih _
theorem gather_fine (l : Bs) : (gatherL l).fine := ⟨gather_ok l, canon_gEnts (canon_gDots _ _) _ _ _⟩

theorem isDigB_dig (d : Nat) (h : d < 10) : isDigB (dig d) = true := by
  simp only [isDigB, Bool.and_eq_true, decide_eq_true_eq, UInt8.le_iff_toNat_le]
  rw [dig_toNat _ (by omega)]
  have e1 : (48 : UInt8).toNat = 48 := rfl
  have e2 : (57 : UInt8).toNat = 57 := rfl
  omega
theorem okD_two (a b : Nat) (ha : a < 10) (hb : b < 10) : okD [dig a, dig b] = true := by
  simp [okD, isDigB_dig a ha, isDigB_dig b hb]
theorem numTo_dd (a b : Nat) (ha : a < 10) (hb : b < 10) : numTo [dig a, dig b] 2 = a * 10 + b := by
  simp only [numTo, List.getD_cons_zero, List.getD_cons_succ, dig_toNat a (by omega), dig_toNat b (by omega)]; omega

/-- A dot more, in its row. -/
theorem rel_dot {p : Pc} {D : List Bs} (h : RelP p D []) (hn : ∀ r i, r < 3 → i < 9 → (p r i).filled = false) (r i : Nat) (hr : r < 3) (hi : i < 9) (hs : Srt (D ++ [dotT r i])) :
    RelP (p.dotText (dotT r i)) (D ++ [dotT r i]) [] ∧ ∀ k j, k < 3 → j < 9 → ((p.dotText (dotT r i)) k j).filled = false := by
  have e : p.dotText (dotT r i) = p.put r i { p r i with known := true } := by
    unfold Pc.dotText dotT
    rw [okD_two _ _ (by omega) (by omega), if_pos rfl]
    have : [dig r, dig (i + 1)].length = 2 := rfl
    rw [this, numTo_dd _ _ (by omega) (by omega)]
    unfold Pc.withDot
    have e1 : (r * 10 + (i + 1)) / 10 = r := by omega
    have e2 : (r * 10 + (i + 1)) % 10 = i + 1 := by omega
    rw [e1, e2, if_pos (by simp [dotOk]; omega)]; rfl
  rw [e]
  have hf : ∀ k j, k < 3 → j < 9 → ((p.put r i { p r i with known := true }) k j).filled = false := by
    intro k j hk hj
    unfold Pc.put
    split
    · exact hn r i hr hi
    · exact hn k j hk hj
  refine ⟨⟨hs, ?_, List.Pairwise.nil, ?_⟩, hf⟩
  · intro x
    rw [List.mem_append, h.md, List.mem_singleton]
    constructor
    · rintro (⟨k, j, hk, hj, hkn, rfl⟩ | rfl)
      · refine ⟨k, j, hk, hj, ?_, rfl⟩
        unfold Pc.put; split
        · rfl
        · exact hkn
      · exact ⟨r, i, hr, hi, by simp [Pc.put], rfl⟩
    · rintro ⟨k, j, hk, hj, hkn, rfl⟩
      by_cases e : k = r ∧ j = i
      · right; rw [e.1, e.2]
      · left; refine ⟨k, j, hk, hj, ?_, rfl⟩
        unfold Pc.put at hkn; rw [if_neg e] at hkn; exact hkn
  · intro x
    simp only [List.not_mem_nil, false_iff]
    rintro ⟨k, j, hk, hj, h', _⟩
    rw [hf k j hk hj] at h'; cases h'

/-- An entry more. -/
theorem rel_ent {p : Pc} {D E : List Bs} (h : RelP p D E) (s : Sl) (hg : s.good) (r i : Nat) (hr : r < 3) (hi : i < 9) (hd : dotT r i ∈ D) (hnd : ∀ e ∈ E, dotOf e ≠ dotT r i) (hs : Srt (E ++ [s.text r (i + 1)])) :
    RelP (p.entText (s.text r (i + 1))) D (E ++ [s.text r (i + 1)]) := by
  obtain ⟨a0, a1, b0, b1, c0, c1⟩ := hg
  have hnf : (p r i).filled = false := by
    cases hf : (p r i).filled
    · rfl
    · exact absurd (text_dot _ _ _) (hnd _ ((h.me _).2 ⟨r, i, hr, hi, hf, rfl⟩))
  have e : p.entText (s.text r (i + 1)) = p.put r i ⟨true, true, s.cart, s.item, s.value⟩ := by
    have e1 : ((s.text r (i + 1)).drop 2).take 2 = [dig r, dig (i + 1)] := rfl
    have e2 : ((s.text r (i + 1)).drop 5).take 2 = [dig (s.value.natAbs / 10), dig (s.value.natAbs % 10)] := rfl
    have e3 : (s.text r (i + 1)).getD 0 0 = cartB s.cart.toNat := rfl
    have e4 : (s.text r (i + 1)).getD 1 0 = itemB s.item.toNat := rfl
    have e5 : (s.text r (i + 1)).getD 4 0 = if s.value < 0 then 45 else 43 := rfl
    unfold Pc.entText
    rw [e1, e2, e3, e4, e5, okD_two _ _ (by omega) (by omega), okD_two _ _ (by omega) (by omega), Bool.and_self, if_pos rfl, numTo_dd _ _ (by omega) (by omega), numTo_dd _ _ (by omega) (by omega), cartB_toNat _ (by omega), itemB_toNat _ (by omega)]
    have v : (if (if s.value < 0 then (45 : UInt8) else 43) = 45 then -((s.value.natAbs / 10 * 10 + s.value.natAbs % 10 : Nat) : Int) else ((s.value.natAbs / 10 * 10 + s.value.natAbs % 10 : Nat) : Int)) = s.value := by
      by_cases hv : s.value < 0
      · rw [if_pos hv, if_pos rfl]; omega
      · rw [if_neg hv, if_neg (by decide)]; omega
    rw [v]
    unfold Pc.withEnt
    have f1 : (r * 10 + (i + 1)) / 10 = r := by omega
    have f2 : (r * 10 + (i + 1)) % 10 = i + 1 := by omega
    have f3 : ((97 + s.cart.toNat : Nat) : Int) - 97 = s.cart := by omega
    have f4 : ((65 + s.item.toNat : Nat) : Int) - 65 = s.item := by omega
    rw [f1, f2, f3, f4, if_pos (by simp [dotOk, entOk]; omega)]; rfl
  rw [e]
  have htx : ∀ (k j : Nat), ((⟨true, true, s.cart, s.item, s.value⟩ : Sl)).text k j = s.text k j := fun _ _ => rfl
  refine ⟨h.sd, ?_, hs, ?_⟩
  · intro x
    rw [h.md]
    constructor
    · rintro ⟨k, j, hk, hj, hkn, rfl⟩
      refine ⟨k, j, hk, hj, ?_, rfl⟩
      unfold Pc.put; split
      · rfl
      · exact hkn
    · rintro ⟨k, j, hk, hj, hkn, rfl⟩
      by_cases e : k = r ∧ j = i
      · rw [e.1, e.2]; exact (h.md _).1 hd
      · refine ⟨k, j, hk, hj, ?_, rfl⟩
        unfold Pc.put at hkn; rw [if_neg e] at hkn; exact hkn
  · intro x
    rw [List.mem_append, h.me, List.mem_singleton]
    constructor
    · rintro (⟨k, j, hk, hj, hf, rfl⟩ | rfl)
      · have hne : ¬ (k = r ∧ j = i) := by rintro ⟨rfl, rfl⟩; rw [hnf] at hf; cases hf
        refine ⟨k, j, hk, hj, ?_, ?_⟩
        · unfold Pc.put; rw [if_neg hne]; exact hf
        · unfold Pc.put; rw [if_neg hne]
      · exact ⟨r, i, hr, hi, by simp [Pc.put], by simp [Pc.put, htx]⟩
    · rintro ⟨k, j, hk, hj, hf, rfl⟩
      by_cases e : k = r ∧ j = i
      · right; obtain ⟨rfl, rfl⟩ := e; simp [Pc.put, htx]
      · left; refine ⟨k, j, hk, hj, ?_, ?_⟩
        · unfold Pc.put at hf; rw [if_neg e] at hf; exact hf
        · unfold Pc.put; rw [if_neg e]

theorem srt_take {L : List Bs} (h : Srt L) (k : Nat) : Srt (L.take k) := List.Pairwise.sublist (List.take_sublist _ _) h
theorem take_snoc {L : List Bs} {k : Nat} (h : k < L.length) : L.take (k + 1) = L.take k ++ [L[k]] := by
  rw [List.take_succ_eq_append_getElem h]
theorem dotG_no59 {D : List Bs} (h : ∀ d ∈ D, dotG d) : ∀ c ∈ D.flatten, (c != 59) = true := by
  intro c hc
  obtain ⟨d, hd, hcd⟩ := List.mem_flatten.1 hc
  obtain ⟨r, i, hr, hi, rfl⟩ := h d hd
  have hne : ∀ k, k < 10 → (dig k != 59) = true := by
    intro k hk
    simp only [bne_iff_ne, ne_eq]
    intro e
    have := congrArg UInt8.toNat e
    rw [dig_toNat _ (by omega)] at this
    have e' : (59 : UInt8).toNat = 59 := rfl
    omega
  simp only [dotT, List.mem_cons, List.not_mem_nil, or_false] at hcd
  rcases hcd with rfl | rfl
  · exact hne _ (by omega)
  · exact hne _ (by omega)

theorem good_end {l : Bs} {D E : List Bs} (g : Good l D E) : endTo l = 2 * D.length := by
  unfold endTo
  rw [g.eq, List.takeWhile_append_of_pos (dotG_no59 g.gd), List.takeWhile_cons]
  simp only [bne_self_eq_false, Bool.false_eq_true, if_false, List.append_nil]
  exact flat_len' D 2 (fun x hx => dotG_len (g.gd x hx))

theorem good_dots {l : Bs} {D E : List Bs} (g : Good l D E) (k : Nat) : k ≤ D.length → RelP (gDots l k) (D.take k) [] ∧ ∀ r i, r < 3 → i < 9 → ((gDots l k) r i).filled = false := by
  induction k with
  | zero =>
    intro _
    refine ⟨?_, fun r i _ _ => by simp [gDots, Pc.empty, Sl.zero]⟩
    rw [gDots, List.take_zero]; exact rel_empty
  | succ k ih =>
    intro hk
    obtain ⟨h1, h2⟩ := ih (by omega)
    have hd : (l.drop (2 * k)).take 2 = D[k] := by
      rw [g.eq, flat_drop 2 D (fun x hx => dotG_len (g.gd x hx)) _ k (by omega), List.drop_eq_getElem_cons (by omega), List.flatten_cons, List.append_assoc]
      have := dotG_len (g.gd D[k] (List.getElem_mem _))
      rw [← this, List.take_left]
    obtain ⟨r, i, hr, hi, e⟩ := g.gd D[k] (List.getElem_mem _)
    rw [gDots, hd, take_snoc (by omega), e]
    refine rel_dot h1 h2 r i hr hi ?_
    rw [← e, ← take_snoc (by omega)]; exact srt_take g.sd _

theorem good_ents {l : Bs} {D E : List Bs} (g : Good l D E) (p : Pc) (h : RelP p D []) (k : Nat) : k ≤ E.length → RelP (gEnts p l (2 * D.length) k) D (E.take k) := by
  induction k with
  | zero => intro _; rw [gEnts, List.take_zero]; exact h
  | succ k ih =>
    intro hk
    have h1 := ih (by omega)
    have hd : (l.drop (2 * D.length + 1 + 7 * k)).take 7 = E[k] := by
      have e0 : l.drop (2 * D.length + 1) = E.flatten := by
        rw [g.eq]
        have : 2 * D.length + 1 = (D.flatten ++ [59]).length := by rw [List.length_append, flat_len' D 2 (fun x hx => dotG_len (g.gd x hx))]; rfl
        rw [this, show D.flatten ++ 59 :: E.flatten = (D.flatten ++ [59]) ++ E.flatten by simp, List.drop_left]
      have h3 := flat_drop 7 E (fun x hx => entG_len (g.ge x hx)) [] k (by omega)
      rw [List.append_nil, List.append_nil] at h3
      rw [← List.drop_drop (i := 7 * k) (j := 2 * D.length + 1), e0, h3, List.drop_eq_getElem_cons (by omega), List.flatten_cons]
      have := entG_len (g.ge E[k] (List.getElem_mem _))
      rw [← this, List.take_left]
    obtain ⟨s, r, i, hr, hi, hg, e⟩ := g.ge E[k] (List.getElem_mem _)
    rw [gEnts, hd, take_snoc (by omega), e]
    refine rel_ent h1 s hg r i hr hi ?_ ?_ ?_
    · have := g.ed E[k] (List.getElem_mem _)
      rw [e] at this; exact this
    · intro x hx hxe
      have hn := g.nd
      rw [← List.take_append_drop k E, List.pairwise_append] at hn
      refine hn.2.2 x hx E[k] (by rw [List.drop_eq_getElem_cons (by omega)]; exact List.mem_cons_self) ?_
      rw [e, text_dot]; exact hxe
    · rw [← e, ← take_snoc (by omega)]; exact srt_take g.se _

/-- What gather makes of a piece's text is the piece. -/
theorem good_rel {l : Bs} {D E : List Bs} (g : Good l D E) : RelP (gatherL l) D E := by
  have he := good_end g
  have hl : l.length = 2 * D.length + 1 + 7 * E.length := by
    have := congrArg List.length g.eq
    rw [List.length_append, List.length_cons, flat_len' D 2 (fun x hx => dotG_len (g.gd x hx)), flat_len' E 7 (fun x hx => entG_len (g.ge x hx))] at this
    omega
  unfold gatherL
  rw [he, hl, show 2 * D.length / 2 = D.length by omega, show (2 * D.length + 1 + 7 * E.length - (2 * D.length + 1)) / 7 = E.length by omega]
  have h1 := (good_dots g D.length (Nat.le_refl _)).1
  rw [List.take_length] at h1
  have h2 := good_ents g _ h1 E.length (Nat.le_refl _)
  rw [List.take_length] at h2
  exact h2
theorem good_text {l : Bs} {D E : List Bs} (g : Good l D E) : (gatherL l).text = l := by
  rw [← (good_rel g).write (gather_ok l)]
  unfold writeL
  rw [g.eq]; simp
theorem good_read {l : Bs} {D E : List Bs} (g : Good l D E) : readOk l = true := by unfold readOk; rw [good_text g]; simp
theorem good_readP {l : Bs} {D E : List Bs} (g : Good l D E) : RelP (readP l) D E ∧ (readP l).fine ∧ (readP l).text = l := by
  unfold readP; rw [good_read g, if_pos rfl]; exact ⟨good_rel g, gather_fine l, good_text g⟩

/-- The lists of a piece are its text's. -/
theorem rel_good {p : Pc} {D E : List Bs} (h : RelP p D E) (hp : p.ok) : Good p.text D E := by
  refine ⟨?_, h.sd, ?_, h.se, ?_, ?_, h.ents_dots hp⟩
  · rw [← h.write hp]; unfold writeL; simp
  · intro d hd
    obtain ⟨r, i, hr, hi, _, rfl⟩ := (h.md d).1 hd
    exact ⟨r, i, hr, hi, rfl⟩
  · intro e he
    obtain ⟨r, i, hr, hi, hf, rfl⟩ := (h.me e).1 he
    exact ⟨p r i, r, i, hr, hi, hp.good hr hi hf, rfl⟩
  · intro e he
    obtain ⟨r, i, hr, hi, hf, rfl⟩ := (h.me e).1 he
    exact (h.md _).2 ⟨r, i, hr, hi, (hp r i hr hi hf).1, rfl⟩
theorem read_good {l : Bs} (h : readOk l = true) : ∃ D E, Good l D E := by
  have e : (gatherL l).text = l := by simpa [readOk] using h
  refine ⟨(gatherL l).dlTo 27, (gatherL l).elAll 12, ?_⟩
  have := rel_good (rel_lists (gatherL l) (gather_ok l)) (gather_ok l)
  rw [e] at this; exact this
theorem noread {l : Bs} (h : ∀ D E, ¬ Good l D E) : readOk l = false := by
  cases hr : readOk l
  · rfl
  · obtain ⟨D, E, g⟩ := read_good hr
    exact absurd g (h D E)
end Go.Proofs.YtalaldfgjgpacaaGreatDoor
