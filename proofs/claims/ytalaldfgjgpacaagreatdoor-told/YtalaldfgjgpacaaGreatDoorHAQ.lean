import Derived.Test.YtalaldfgjgpacaaGreatDoorHAD
import Derived.Test.YtalaldfgjgpacaaGreatDoorHAH
import Derived.Test.YtalaldfgjgpacaaGreatDoorHAP
namespace Go.Proofs.YtalaldfgjgpacaaGreatDoor
set_option linter.unusedVariables false
set_option linter.unusedSimpArgs false
open Go.RowKit
attribute [local go_sem ↓] Go.wp_at_zero Go.wp_at_succ run_load63 run_store63
attribute [local go_sem] blkOf_mk offOf_mk isPt_mk isRow_pc Has_drew HasW_drew rowOf_drew HasW_new

/-- Deltas joined in their order: those up to number c (counted from the newest on), from number i on. -/
def tailJ (L : List Pc) (c i : Nat) : Pc := ((L.take c).drop i).reverse.foldl Pc.join Pc.empty
theorem tailJ_end (L : List Pc) (c i : Nat) (h : c ≤ i) : tailJ L c i = Pc.empty := by
  unfold tailJ; rw [List.drop_eq_nil_of_le (by simp; omega)]; rfl
theorem tailJ_step (L : List Pc) (c i : Nat) (hi : i < c) (hc : c ≤ L.length) : tailJ L c i = (tailJ L c (i + 1)).join (L.getD i Pc.empty) := by
  have hl : i < (L.take c).length := by simp; omega
  have hL : i < L.length := by omega
  unfold tailJ
  rw [List.drop_eq_getElem_cons hl, List.reverse_cons, List.foldl_append]
  simp [List.getD_eq_getElem?_getD, hL]
theorem repF_blk {w : World} {b me n : Nat} {p : Pc} {x : Ext} {t : TypeId} (h : w.heap[b]? = some (.cells (repArr me n p x) t)) : w.heap[b]? = some (.cells (repArrF me n p x x.lat x.tail) t) := by rw [← repF]; exact h

/-- On the way through what is remembered. -/
def LastRel (b me n : Nat) (p : Pc) (x : Ext) (c : Nat) (w : World) (k : Nat) (wr : World) : Prop :=
  wr.heap[b]? = some (.cells (repArr me n p x) 69) ∧ wr.heap[w.heap.size]? = some (.cells Tryz.zeroCells65 65) ∧ wr.heap[w.heap.size + 1]? = some (.cells (tailJ x.late c k).arr 65) ∧ Blw w wr
theorem LastRel.start {b me n : Nat} {p : Pc} {x : Ext} (c : Nat) {w : World} (hc : c ≤ 4) (h : w.heap[b]? = some (.cells (repArr me n p x) 69)) :
    LastRel b me n p x c w 4 ((w.alloc (.cells Tryz.zeroCells65 65)).alloc (.cells Tryz.zeroCells65 65)) := by
  have hb := lt_of_blk h
  refine ⟨hp_old _ (by simp; omega) (hp_old _ hb h), hp_old _ (by simp) (hp_new _ _), ?_, ((Blw.rfl _).al _).al _⟩
  rw [tailJ_end _ _ _ hc, ← zero63]
  simpa using hp_new (w.alloc (.cells Tryz.zeroCells65 65)) (.cells Tryz.zeroCells65 65)
theorem LastRel.none {b me n : Nat} {p : Pc} {x : Ext} {c : Nat} {w wr : World} {k : Nat} (h : LastRel b me n p x c w (k + 1) wr) (hk : ¬ k < c) : LastRel b me n p x c w k wr := by
  refine ⟨h.1, h.2.1, ?_, h.2.2.2⟩
  rw [tailJ_end _ _ _ (by omega), ← tailJ_end x.late c (k + 1) (by omega)]; exact h.2.2.1
theorem LastRel.step {b me n : Nat} {p : Pc} {x : Ext} {c : Nat} {w wr w4 : World} {k : Nat} (hk : k < c) (e : tailJ x.late c k = (tailJ x.late c (k + 1)).join (x.lat k)) (h : LastRel b me n p x c w (k + 1) wr) (b4 : Blw wr.drew w4) :
    LastRel b me n p x c w k (putRowAt w4 (w.heap.size + 1) 0 (.agg ((tailJ x.late c (k + 1)).join (x.lat k)).arr)) := by
  have B : Blw wr w4 := Blw.tr (Blw.dr (Blw.rfl _)) b4
  have m0 := B.bk' h.1
  have m1 := B.bk' h.2.1
  have m2 := B.bk' h.2.2.1
  have hne : b ≠ w.heap.size + 1 := by
    rintro rfl
    skip
    have := h.1
    rw [h.2.2.1] at this
    simp only [Option.some.injEq, Obj.cells.injEq] at this
    exact absurd this.2.1 (by decide)
  exact ⟨by rw [put_ne hne]; exact m0, by rw [put_ne (by omega)]; exact m1, by rw [e]; exact put_pc m2 (by rw [Pc.size]), put_blw (h.2.2.2.tr B) _ _ (by omega)⟩

set_option maxRecDepth 100000 in
set_option maxHeartbeats 4000000 in
theorem lastDeltas_any (b me n : Nat) (p : Pc) (x : Ext) (c : Nat) (w : World) (hc : c ≤ x.kept) (h : w.heap[b]? = some (.cells (repArr me n p x) 69)) :
    Calls Tryz.prog 116 #[.pointer (some ⟨b, 0, none⟩), .int .i64 c] w fun e w' => e = .returned (.agg (tailJ x.late c 0).arr) ∧ Blw w w' := by
  have hc4 : c ≤ 4 := Nat.le_trans hc (Nat.min_le_left _ _)
  have hcl : c ≤ x.late.length := Nat.le_trans hc (Nat.min_le_right _ _)
  have H := hid (LastRel.start (p := p) c hc4 h)
  clear h hc
  go_enter Tryz.func116, Tryz.ntmps116
  go_wp2
  go_loopw [6] (fun i wr => ∃ k : Nat, k ≤ 4 ∧ i = .int .i64 ((k : Int) - 1) ∧ LastRel b me n p x c w k wr) (fun i _ => ((intOf i) + 1).toNat)
  case atStart => exact ⟨4, by omega, rfl, H.out⟩
  case round =>
    obtain ⟨k, hk, rfl, hR⟩ := hrel
    have HR := hid hR
    clear hR H
    have : k = 0 ∨ k = 1 ∨ k = 2 ∨ k = 3 ∨ k = 4 := by omega
    clear hk
    rcases this with rfl | rfl | rfl | rfl | rfl
    · have r2 := rowOf_pc HR.out.2.2.1
      have h2 := Has_pc HR.out.2.2.1
      have hW := HasW_of HR.out.2.1 zle63
      have hz := put_pc (q := tailJ x.late c 0) HR.out.2.1 zsize63
      go_wp2
      exact bodyPost_ret (results_cell_row rfl _ _ w.heap.size 65 (tailJ x.late c 0).arr (0, 0) _ (by rfl) hz Tryz.underlying65 rfl (by rw [size63, Pc.size])) rfl ⟨rfl, put_blw HR.out.2.2.2 _ _ (Nat.le_refl _)⟩
    · -- place 0
      have HS := hid HR.out
      by_cases hic : 0 < c
      · have d1 : decide (((0 : Nat) : Int) < (c : Int)) = true := by simp; omega
        have d1' : decide ((0 : Int) < (c : Int)) = true := by simp; omega
        have HJ := hid (fun wx => join_any (tailJ x.late c 1) (x.lat 0) wx)
        have r1 := rowOf_repF (repF_blk HR.out.1) 0 (by omega)
        have h1 := Has_repF (repF_blk HR.out.1) 0 (by omega)
        simp only [Nat.zero_mul, Nat.one_mul, Nat.add_zero, Nat.reduceAdd, Nat.reduceMul] at r1 h1
        have r2 := rowOf_pc HR.out.2.2.1
        have h2 := Has_pc HR.out.2.2.1
        have ES : Hid (tailJ x.late c 0 = (tailJ x.late c 1).join (x.lat 0)) := tailJ_step x.late c 0 hic (by omega)
        go_wp2_with fail
        go_region_with (first | (go_at_call 74; refine (HJ.out _).mono ?_; rintro e w4 ⟨rfl, b4⟩; have Hn := hid (LastRel.step (p := p) hic ES.out HR.out b4); have hW := HasW_pc (b4.bk' (show wr.drew.heap[w.heap.size + 1]? = _ from HR.out.2.2.1))))
        all_goals
          go_wp2_with fail
          go_roundw
          case rel => exact ⟨0, by omega, by go_num, Hn.out⟩
          case measure => simp [intOf]
      · have d1 : decide (((0 : Nat) : Int) < (c : Int)) = false := by simp; omega
        have d1' : decide ((0 : Int) < (c : Int)) = false := by simp; omega
        have Hn : Hid (LastRel b me n p x c w 0 wr) := HR.out.none hic
        go_wp2_with fail
        go_roundw
        case rel => exact ⟨0, by omega, by go_num, Hn.out⟩
        case measure => simp [intOf]
    · -- place 1
      have HS := hid HR.out
      by_cases hic : 1 < c
      · have d1 : decide (((1 : Nat) : Int) < (c : Int)) = true := by simp; omega
        have d1' : decide ((1 : Int) < (c : Int)) = true := by simp; omega
        have HJ := hid (fun wx => join_any (tailJ x.late c 2) (x.lat 1) wx)
        have r1 := rowOf_repF (repF_blk HR.out.1) 1 (by omega)
        have h1 := Has_repF (repF_blk HR.out.1) 1 (by omega)
        simp only [Nat.zero_mul, Nat.one_mul, Nat.add_zero, Nat.reduceAdd, Nat.reduceMul] at r1 h1
        have r2 := rowOf_pc HR.out.2.2.1
        have h2 := Has_pc HR.out.2.2.1
        have ES : Hid (tailJ x.late c 1 = (tailJ x.late c 2).join (x.lat 1)) := tailJ_step x.late c 1 hic (by omega)
        go_wp2_with fail
        go_region_with (first | (go_at_call 74; refine (HJ.out _).mono ?_; rintro e w4 ⟨rfl, b4⟩; have Hn := hid (LastRel.step (p := p) hic ES.out HR.out b4); have hW := HasW_pc (b4.bk' (show wr.drew.heap[w.heap.size + 1]? = _ from HR.out.2.2.1))))
        all_goals
          go_wp2_with fail
          go_roundw
          case rel => exact ⟨1, by omega, by go_num, Hn.out⟩
          case measure => simp [intOf]
      · have d1 : decide (((1 : Nat) : Int) < (c : Int)) = false := by simp; omega
        have d1' : decide ((1 : Int) < (c : Int)) = false := by simp; omega
        have Hn : Hid (LastRel b me n p x c w 1 wr) := HR.out.none hic
        go_wp2_with fail
        go_roundw
        case rel => exact ⟨1, by omega, by go_num, Hn.out⟩
        case measure => simp [intOf]
    · -- place 2
      have HS := hid HR.out
      by_cases hic : 2 < c
      · have d1 : decide (((2 : Nat) : Int) < (c : Int)) = true := by simp; omega
        have d1' : decide ((2 : Int) < (c : Int)) = true := by simp; omega
        have HJ := hid (fun wx => join_any (tailJ x.late c 3) (x.lat 2) wx)
        have r1 := rowOf_repF (repF_blk HR.out.1) 2 (by omega)
        have h1 := Has_repF (repF_blk HR.out.1) 2 (by omega)
        simp only [Nat.zero_mul, Nat.one_mul, Nat.add_zero, Nat.reduceAdd, Nat.reduceMul] at r1 h1
        have r2 := rowOf_pc HR.out.2.2.1
        have h2 := Has_pc HR.out.2.2.1
        have ES : Hid (tailJ x.late c 2 = (tailJ x.late c 3).join (x.lat 2)) := tailJ_step x.late c 2 hic (by omega)
        go_wp2_with fail
        go_region_with (first | (go_at_call 74; refine (HJ.out _).mono ?_; rintro e w4 ⟨rfl, b4⟩; have Hn := hid (LastRel.step (p := p) hic ES.out HR.out b4); have hW := HasW_pc (b4.bk' (show wr.drew.heap[w.heap.size + 1]? = _ from HR.out.2.2.1))))
        all_goals
          go_wp2_with fail
          go_roundw
          case rel => exact ⟨2, by omega, by go_num, Hn.out⟩
          case measure => simp [intOf]
      · have d1 : decide (((2 : Nat) : Int) < (c : Int)) = false := by simp; omega
        have d1' : decide ((2 : Int) < (c : Int)) = false := by simp; omega
        have Hn : Hid (LastRel b me n p x c w 2 wr) := HR.out.none hic
        go_wp2_with fail
        go_roundw
        case rel => exact ⟨2, by omega, by go_num, Hn.out⟩
        case measure => simp [intOf]
    · -- place 3
      have HS := hid HR.out
      by_cases hic : 3 < c
      · have d1 : decide (((3 : Nat) : Int) < (c : Int)) = true := by simp; omega
        have d1' : decide ((3 : Int) < (c : Int)) = true := by simp; omega
        have HJ := hid (fun wx => join_any (tailJ x.late c 4) (x.lat 3) wx)
        have r1 := rowOf_repF (repF_blk HR.out.1) 3 (by omega)
        have h1 := Has_repF (repF_blk HR.out.1) 3 (by omega)
        simp only [Nat.zero_mul, Nat.one_mul, Nat.add_zero, Nat.reduceAdd, Nat.reduceMul] at r1 h1
        have r2 := rowOf_pc HR.out.2.2.1
        have h2 := Has_pc HR.out.2.2.1
        have ES : Hid (tailJ x.late c 3 = (tailJ x.late c 4).join (x.lat 3)) := tailJ_step x.late c 3 hic (by omega)
        go_wp2_with fail
        go_region_with (first | (go_at_call 74; refine (HJ.out _).mono ?_; rintro e w4 ⟨rfl, b4⟩; have Hn := hid (LastRel.step (p := p) hic ES.out HR.out b4); have hW := HasW_pc (b4.bk' (show wr.drew.heap[w.heap.size + 1]? = _ from HR.out.2.2.1))))
        all_goals
          go_wp2_with fail
          go_roundw
          case rel => exact ⟨3, by omega, by go_num, Hn.out⟩
          case measure => simp [intOf]
      · have d1 : decide (((3 : Nat) : Int) < (c : Int)) = false := by simp; omega
        have d1' : decide ((3 : Int) < (c : Int)) = false := by simp; omega
        have Hn : Hid (LastRel b me n p x c w 3 wr) := HR.out.none hic
        go_wp2_with fail
        go_roundw
        case rel => exact ⟨3, by omega, by go_num, Hn.out⟩
        case measure => simp [intOf]
end Go.Proofs.YtalaldfgjgpacaaGreatDoor

namespace Go.Proofs.YtalaldfgjgpacaaGreatDoor
set_option linter.unusedVariables false
set_option linter.unusedSimpArgs false
open Go.RowKit
attribute [local go_sem ↓] Go.wp_at_zero Go.wp_at_succ

/-- Do the first k of the one stand within those of the other? -/
def withinTo (ks ls : List Int) : Nat → Bool
  | 0 => true
  | k + 1 => withinTo ks ls k && decide (ks.getD k 0 ≤ ls.getD k 0)

theorem withinTo_mono (ks ls : List Int) (k : Nat) (h : withinTo ks ls k = false) : ∀ m, k ≤ m → withinTo ks ls m = false := by
  intro m
  induction m with
  | zero => intro hk; have : k = 0 := by omega
            subst this; exact h
  | succ m ih =>
    intro hk
    by_cases e : k = m + 1
    · subst e; exact h
    · rw [withinTo, ih (by omega)]; rfl

set_option maxRecDepth 100000 in
set_option maxHeartbeats 1000000 in
theorem within_any (ks ls : List Int) (n g j : Nat) (w : World) (hn : n ≤ 3) (hks : ks.length = n) (hls : ls.length = n) (hg : w.heap[g]? = some (.cells (intsV ks) 3)) (hj : w.heap[j]? = some (.cells (intsV ls) 3)) :
    Calls Tryz.prog 69 #[.slice (some ⟨g, 0, none⟩) n n, .slice (some ⟨j, 0, none⟩) n n] w fun e w' => e = .returned (.bool (withinTo ks ls n)) ∧ Blw w w' := by
  have HG := hid hg
  have HJ := hid hj
  have HKS := hid hks
  have HLS := hid hls
  clear hg hj hks hls
  obtain ⟨an, han⟩ : ∃ an, an = withinTo ks ls n := ⟨_, rfl⟩
  rw [← han]
  have HA := hid han
  clear han
  go_enter Tryz.func69, Tryz.ntmps69
  go_wp2
  go_loopw [5] (fun i wr => ∃ k : Nat, k ≤ n ∧ i = .int .i64 k ∧ withinTo ks ls k = true ∧ Blw w wr) (fun i _ => n - (intOf i).toNat)
  case atStart => exact ⟨0, by omega, rfl, rfl, Blw.rfl _⟩
  case round =>
    obtain ⟨k, hk, rfl, hst, hb⟩ := hrel
    have HST := hid hst
    have HB := hid hb
    clear hst hb
    by_cases hlt : k < n
    · have ci : wr.cell? ⟨g, k, none⟩ = some (.int .i64 (ks.getD k 0)) := by rw [blk_cell (HB.out.bk' HG.out)]; exact intsV_at (by rw [HKS.out]; omega)
      have cj : wr.cell? ⟨j, k, none⟩ = some (.int .i64 (ls.getD k 0)) := by rw [blk_cell (HB.out.bk' HJ.out)]; exact intsV_at (by rw [HLS.out]; omega)
      have HE : Hid (withinTo ks ls (k + 1) = decide (ks.getD k 0 ≤ ls.getD k 0)) := by
        show withinTo ks ls (k + 1) = _
        rw [withinTo, HST.out, Bool.true_and]
      generalize ks.getD k 0 = d at *
      generalize ls.getD k 0 = d' at *
      by_cases hgt : d' < d
      · have HF : Hid (an = false) := by
          show an = false
          rw [HA.out]
          exact withinTo_mono _ _ (k + 1) (by rw [HE.out]; exact decide_eq_false (by omega)) _ (by omega)
        go_wp2
        go_region
        go_wp2
        go_ret
        exact ⟨by rw [HF.out]; rfl, HB.out.dr⟩
      · go_wp2
        go_region
        go_wp2
        go_roundw
        case rel => exact ⟨k + 1, by omega, by go_num, by rw [HE.out]; exact decide_eq_true (by omega), HB.out.dr⟩
        case measure => simp [intOf]; omega
    · have hkn : k = n := by omega
      subst hkn
      go_wp2
      go_ret
      exact ⟨by rw [HA.out, HST.out]; rfl, HB.out⟩
end Go.Proofs.YtalaldfgjgpacaaGreatDoor

namespace Go.Proofs.YtalaldfgjgpacaaGreatDoor
set_option linter.unusedVariables false
set_option linter.unusedSimpArgs false
open Go.RowKit
attribute [local go_sem ↓] Go.wp_at_zero Go.wp_at_succ run_load63 run_store63
attribute [local go_sem] blkOf_mk offOf_mk isPt_mk isRow_pc Has_drew HasW_drew rowOf_drew HasW_new Has_alloc rowOf_alloc isRow_zero63

theorem results_2rows {P : Program} {fn : Func} {p q u : Tmp} {ty ty' : TypeId} (h : fn.results = #[.cell p ty, .cell q ty', .tmp u]) (tmps : Array Value) (w : World) (g g' : Nat) (t t' : TypeId) (cs cs' : Array Value) (fr fr' : Nat × Nat) (d d' : TypeDesc)
    (hp : tmps.getD p undef = .pointer (some ⟨g, 0, none⟩)) (hg : w.heap[g]? = some (.cells cs t fr)) (hu : P.underlying ty = some d) (hd : (match d with | .struct _ | .array _ _ => true | _ => false) = true) (hi : (P.info? ty).map (·.size) = some cs.size)
    (hp' : tmps.getD q undef = .pointer (some ⟨g', 0, none⟩)) (hg' : w.heap[g']? = some (.cells cs' t' fr')) (hu' : P.underlying ty' = some d') (hd' : (match d' with | .struct _ | .array _ _ => true | _ => false) = true) (hi' : (P.info? ty').map (·.size) = some cs'.size) :
    (results fn tmps).run P w = .ok (.tuple #[.agg cs, .agg cs', tmps.getD u undef]) w := by
  have h1 := run_loadVar_row w g t ty cs fr d hg hu hd hi
  have h2 := run_loadVar_row w g' t' ty' cs' fr' d' hg' hu' hd' hi'
  have a1 : (asAddr (tmps.getD p undef)).run P w = .ok ⟨g, 0, none⟩ w := by rw [hp]; rfl
  have a2 : (asAddr (tmps.getD q undef)).run P w = .ok ⟨g', 0, none⟩ w := by rw [hp']; rfl
  simp only [results, h]
  simp only [Array.mapM_eq_mapM_toList, List.mapM_cons, List.mapM_nil, Sem.run_bind, Sem.run_pure, Result.andThen_ok, a1, a2, h1, h2, map_eq_pure_bind, bind_assoc, pure_bind]
  simp [Sem.run_bind, Result.andThen, a1, a2, h1, h2]

/-- Four cells written. -/
def set4 (w : World) (A : Nat) (v0 v1 v2 v3 : Value) : World := (((w.setCell ⟨A, 0, none⟩ v0).setCell ⟨A, 1, none⟩ v1).setCell ⟨A, 2, none⟩ v2).setCell ⟨A, 3, none⟩ v3
theorem set4_self {w : World} {A : Nat} {x0 x1 x2 x3 : Value} {t : TypeId} (h : w.heap[A]? = some (.cells #[x0, x1, x2, x3] t)) (v0 v1 v2 v3 : Value) : (set4 w A v0 v1 v2 v3).heap[A]? = some (.cells #[v0, v1, v2, v3] t) := by
  unfold set4
  rw [heap_setCell_self (heap_setCell_self (heap_setCell_self (heap_setCell_self h v0) v1) v2) v3]; rfl
theorem set4_ne {w : World} {A b : Nat} {o : Obj} (h : w.heap[b]? = some o) (hne : b ≠ A) (v0 v1 v2 v3 : Value) : (set4 w A v0 v1 v2 v3).heap[b]? = some o := by
  unfold set4
  rw [Below.heap_setCell _ ⟨A, 3, none⟩ v3 b hne, Below.heap_setCell _ ⟨A, 2, none⟩ v2 b hne, Below.heap_setCell _ ⟨A, 1, none⟩ v1 b hne, Below.heap_setCell _ ⟨A, 0, none⟩ v0 b hne]; exact h
theorem set4_blw {w w0 : World} {A : Nat} (h : Blw w w0) (hA : w.heap.size ≤ A) (v0 v1 v2 v3 : Value) : Blw w (set4 w0 A v0 v1 v2 v3) := (((h.sc _ _ _ hA).sc _ _ _ hA).sc _ _ _ hA).sc _ _ _ hA

/-- The two boxes of an answer. -/
structure MB (w wr : World) : Prop where
  a : ∃ x0 x1 x2 x3, wr.heap[w.heap.size]? = some (.cells #[x0, x1, x2, x3] 71)
  z : wr.heap[w.heap.size + 1]? = some (.cells Tryz.zeroCells65 65)
  bl : Blw w wr
theorem MB.on {w wr w' : World} (h : MB w wr) (hb : Blw wr w') : MB w w' := by
  obtain ⟨x0, x1, x2, x3, ha⟩ := h.a
  exact ⟨⟨x0, x1, x2, x3, hb.bk' ha⟩, hb.bk' h.z, h.bl.tr hb⟩

/-- Behind a refusal. -/
structure MF (w wr : World) : Prop where
  a : (putRowAt (set4 wr w.heap.size (.string ⟨#[]⟩) (.int .i64 0) (.int .i64 0) (.int .i64 0)) (w.heap.size + 1) 0 (.agg Tryz.zeroCells65)).heap[w.heap.size]? = some (.cells (headArr [] 0 0 0) 71)
  z : (putRowAt (set4 wr w.heap.size (.string ⟨#[]⟩) (.int .i64 0) (.int .i64 0) (.int .i64 0)) (w.heap.size + 1) 0 (.agg Tryz.zeroCells65)).heap[w.heap.size + 1]? = some (.cells Tryz.zeroCells65 65)
  bl : Blw w (putRowAt (set4 wr w.heap.size (.string ⟨#[]⟩) (.int .i64 0) (.int .i64 0) (.int .i64 0)) (w.heap.size + 1) 0 (.agg Tryz.zeroCells65))
theorem MB.fail {w wr : World} (h : MB w wr) : MF w wr ∧ HasW (set4 wr w.heap.size (.string ⟨#[]⟩) (.int .i64 0) (.int .i64 0) (.int .i64 0)) (w.heap.size + 1) 0 := by
  obtain ⟨x0, x1, x2, x3, ha⟩ := h.a
  have h1 := set4_self ha (.string ⟨#[]⟩) (.int .i64 0) (.int .i64 0) (.int .i64 0)
  have h2 := set4_ne (A := w.heap.size) h.z (by omega) (.string ⟨#[]⟩) (.int .i64 0) (.int .i64 0) (.int .i64 0)
  have h3 := set4_blw h.bl (Nat.le_refl w.heap.size) (.string ⟨#[]⟩) (.int .i64 0) (.int .i64 0) (.int .i64 0)
  refine ⟨⟨?_, ?_, put_blw h3 _ _ (by omega)⟩, HasW_of h2 zle63⟩
  · rw [put_ne (by omega)]; exact h1
  · rw [zero63] at h2 ⊢; exact put_pc h2 (Pc.size _)

theorem size69 : (Tryz.prog.info? 71).map (·.size) = some 4 := by kernel_rfl

set_option maxRecDepth 100000 in
set_option maxHeartbeats 4000000 in
theorem readMsg_short (s : ByteArray) (w : World) (hs : s.size ≤ maxLen) (h : s.size < 5 ∨ 300 < s.size) :
    Calls Tryz.prog 29 #[.string s] w fun e w' => e = .returned (.tuple #[.agg (headArr [] 0 0 0), .agg Pc.empty.arr, .bool false]) ∧ Blw w w' := by
  unfold maxLen at hs
  obtain ⟨w0, hw0⟩ : ∃ w0, w0 = (w.alloc (.cells #[.string ⟨#[]⟩, .int .i64 0, .int .i64 0, .int .i64 0] 71)).alloc (.cells Tryz.zeroCells65 65) := ⟨_, rfl⟩
  have M0 : Hid (MB w w0) := ⟨⟨_, _, _, _, by rw [hw0]; exact hp_old _ (by simp) (hp_new _ _)⟩, by rw [hw0]; exact hp_new2 w _ _, by rw [hw0]; exact ((Blw.rfl _).al _).al _⟩
  have HIZ : Hid ((Tryz.prog.info? 65).map (·.size) = some Tryz.zeroCells65.size) := by show _ = _; rw [size63, zsize63]
  rw [show Pc.empty.arr = Tryz.zeroCells65 from zero63.symm]
  obtain ⟨x0, x1, x2, x3, ha⟩ := M0.out.a
  have hw := M0.out.fail.2
  have MFx := hid M0.out.fail.1
  unfold set4 at hw
  have a0 := blk_cell ha 0
  have a1 := blk_cell ha 1
  have a2 := blk_cell ha 2
  have a3 := blk_cell ha 3
  have f0 := blk_frozen ha 0
  have f1 := blk_frozen ha 1
  have f2 := blk_frozen ha 2
  have f3 := blk_frozen ha 3
  clear ha
  rcases h with h | h
  · go_enter Tryz.func29, Tryz.ntmps29
    go_upto_region 1 with fail
    rw [← hw0]
    clear hw0
    go_wp2_with fail
    have m1 := MFx.out.a
    have m2 := MFx.out.z
    have m3 := MFx.out.bl
    have HI := HIZ.out
    unfold set4 at m1 m2 m3
    
    clear hw MFx a0 a1 a2 a3 f0 f1 f2 f3
    generalize putRowAt ((((w0.setCell ⟨w.heap.size, 0, none⟩ (.string ⟨#[]⟩)).setCell ⟨w.heap.size, 1, none⟩ (.int .i64 0)).setCell ⟨w.heap.size, 2, none⟩ (.int .i64 0)).setCell ⟨w.heap.size, 3, none⟩ (.int .i64 0)) (w.heap.size + 1) 0 (.agg Tryz.zeroCells65) = wz at *
    generalize Tryz.zeroCells65 = Z at *
    exact bodyPost_ret (results_2rows rfl _ _ w.heap.size (w.heap.size + 1) 71 65 (headArr [] 0 0 0) Z (0, 0) (0, 0) _ _ (by rfl) m1 Tryz.underlying71 rfl size69 (by rfl) m2 Tryz.underlying65 rfl HI) rfl ⟨rfl, m3⟩
  · have h5 : ¬ s.size < 5 := by omega
    go_enter Tryz.func29, Tryz.ntmps29
    go_upto_region 1 with fail
    rw [← hw0]
    clear hw0
    go_wp2_with fail
    have m1 := MFx.out.a
    have m2 := MFx.out.z
    have m3 := MFx.out.bl
    have HI := HIZ.out
    unfold set4 at m1 m2 m3
    
    clear hw MFx a0 a1 a2 a3 f0 f1 f2 f3
    generalize putRowAt ((((w0.setCell ⟨w.heap.size, 0, none⟩ (.string ⟨#[]⟩)).setCell ⟨w.heap.size, 1, none⟩ (.int .i64 0)).setCell ⟨w.heap.size, 2, none⟩ (.int .i64 0)).setCell ⟨w.heap.size, 3, none⟩ (.int .i64 0)) (w.heap.size + 1) 0 (.agg Tryz.zeroCells65) = wz at *
    generalize Tryz.zeroCells65 = Z at *
    exact bodyPost_ret (results_2rows rfl _ _ w.heap.size (w.heap.size + 1) 71 65 (headArr [] 0 0 0) Z (0, 0) (0, 0) _ _ (by rfl) m1 Tryz.underlying71 rfl size69 (by rfl) m2 Tryz.underlying65 rfl HI) rfl ⟨rfl, m3⟩

set_option maxRecDepth 100000 in
set_option maxHeartbeats 8000000 in
theorem readMsg_any (c0 c1 c2 c3 c4 : UInt8) (t : Bs) (ok : Bool) (hd : Array Value) (q : Pc) (w : World) (hl : t.length ≤ 295) (hok : ok = (hdOk c1 c2 c3 c4 && ((([c0] == [(73 : UInt8)]) || ([c0] == [(70 : UInt8)])) && readOk t)))
    (hy1 : ok = true → hd = headArr [c0] (c1.toNat - 48) (c2.toNat - 48) ((c3.toNat - 48) * 10 + (c4.toNat - 48)) ∧ q = readP t) (hn1 : ok = false → hd = headArr [] 0 0 0 ∧ q = Pc.empty) :
    Calls Tryz.prog 29 #[.string ⟨(c0 :: c1 :: c2 :: c3 :: c4 :: t).toArray⟩] w fun e w' => e = .returned (.tuple #[.agg hd, .agg q.arr, .bool ok]) ∧ Blw w w' := by
  obtain ⟨y, hy⟩ : ∃ y : ByteArray, y = ⟨(c0 :: c1 :: c2 :: c3 :: c4 :: t).toArray⟩ := ⟨_, rfl⟩
  have hys : y.size = t.length + 5 := by rw [hy, bs_size]; rfl
  have HX0 : Hid (y.extract 0 5 = ⟨#[c0, c1, c2, c3, c4]⟩) := by rw [hy]; exact bs_extract (c0 :: c1 :: c2 :: c3 :: c4 :: t) 0 5
  have HX5 : Hid (y.extract 5 y.size = ⟨t.toArray⟩) := by
    show _ = _
    rw [hys, hy]; exact (bs_extract (c0 :: c1 :: c2 :: c3 :: c4 :: t) 5 _).trans (by simp)
  have h5 : ¬ y.size < 5 := by omega
  have h300 : ¬ 300 < y.size := by omega
  have h5' : 5 ≤ y.size := by omega
  have HYS := hid hys
  rw [← hy]
  obtain ⟨w0, hw0⟩ : ∃ w0, w0 = (w.alloc (.cells #[.string ⟨#[]⟩, .int .i64 0, .int .i64 0, .int .i64 0] 71)).alloc (.cells Tryz.zeroCells65 65) := ⟨_, rfl⟩
  have M0 : Hid (MB w w0) := ⟨⟨_, _, _, _, by rw [hw0]; exact hp_old _ (by simp) (hp_new _ _)⟩, by rw [hw0]; exact hp_new2 w _ _, by rw [hw0]; exact ((Blw.rfl _).al _).al _⟩
  have HIZ : Hid ((Tryz.prog.info? 65).map (·.size) = some Tryz.zeroCells65.size) := by show _ = _; rw [size63, zsize63]
  have HR := hid (fun wx => pread_any t wx (by omega))
  have HOK := hid hok
  have HY1 := hid hy1
  have HN1 := hid (fun h => hn1 h)
  have NO : Hid (ok = false → (Value.agg hd = .agg (headArr [] 0 0 0) ∧ Value.agg q.arr = .agg Tryz.zeroCells65)) := by
    intro h
    obtain ⟨e1, e2⟩ := hn1 h
    exact ⟨by rw [e1], by rw [e2, zero63]⟩
  clear hy hys hok hy1 hn1 hl HN1
  obtain ⟨fr, hfr⟩ : ∃ fr, fr = c1.toNat - 48 := ⟨_, rfl⟩
  obtain ⟨tt, htt⟩ : ∃ tt, tt = c2.toNat - 48 := ⟨_, rfl⟩
  obtain ⟨cn, hcn⟩ : ∃ cn, cn = (c3.toNat - 48) * 10 + (c4.toNat - 48) := ⟨_, rfl⟩
  rw [← hfr, ← htt, ← hcn] at HY1
  cases hh : hdOk c1 c2 c3 c4
  · have E : Hid (ok = false) := by show _ = _; rw [HOK.out, hh]; rfl
    have HH : Hid (∀ wx, Calls Tryz.prog 70 #[.string ⟨#[c0, c1, c2, c3, c4]⟩] wx fun e w' => e = .returned (.tuple #[.agg #[.string ⟨#[]⟩, .int .i64 0, .int .i64 0, .int .i64 0], .bool false]) ∧ Blw wx w') := fun wx => readHead_any c0 c1 c2 c3 c4 false _ wx hh.symm rfl
    clear HY1 HOK
    go_enter Tryz.func29, Tryz.ntmps29
    go_upto_region 1 with fail
    rw [← hw0]
    clear hw0
    go_wp2_with fail
    rw [HX0.out]
    refine (HH.out _).mono ?_
    rintro e w1 ⟨rfl, b1⟩
    have M1 := hid (M0.out.on b1)
    clear b1
    go_upto_region 4 with fail
    have M2 := hid (M1.out.on ((Blw.rfl w1).al (.cells #[.string ⟨#[]⟩, .int .i64 0, .int .i64 0, .int .i64 0] 71)))
    generalize w1.alloc (.cells #[.string ⟨#[]⟩, .int .i64 0, .int .i64 0, .int .i64 0] 71) = w2 at *
    obtain ⟨x0, x1, x2, x3, ha⟩ := M2.out.a
    have hw := M2.out.fail.2
    have MFx := hid M2.out.fail.1
    unfold set4 at hw
    have a0 := blk_cell ha 0
    have a1 := blk_cell ha 1
    have a2 := blk_cell ha 2
    have a3 := blk_cell ha 3
    have f0 := blk_frozen ha 0
    have f1 := blk_frozen ha 1
    have f2 := blk_frozen ha 2
    have f3 := blk_frozen ha 3
    clear ha
    go_wp2_with fail
    have m1 := MFx.out.a
    have m2 := MFx.out.z
    have m3 := MFx.out.bl
    have HI := HIZ.out
    unfold set4 at m1 m2 m3
    
    clear hw MFx a0 a1 a2 a3 f0 f1 f2 f3
    generalize putRowAt ((((w2.setCell ⟨w.heap.size, 0, none⟩ (.string ⟨#[]⟩)).setCell ⟨w.heap.size, 1, none⟩ (.int .i64 0)).setCell ⟨w.heap.size, 2, none⟩ (.int .i64 0)).setCell ⟨w.heap.size, 3, none⟩ (.int .i64 0)) (w.heap.size + 1) 0 (.agg Tryz.zeroCells65) = wz at *
    generalize Tryz.zeroCells65 = Z at *
    exact bodyPost_ret (results_2rows rfl _ _ w.heap.size (w.heap.size + 1) 71 65 (headArr [] 0 0 0) Z (0, 0) (0, 0) _ _ (by rfl) m1 Tryz.underlying71 rfl size69 (by rfl) m2 Tryz.underlying65 rfl HI) rfl ⟨by rw [(NO.out E.out).1, (NO.out E.out).2, E.out]; rfl, m3⟩
  · have HH : Hid (∀ wx, Calls Tryz.prog 70 #[.string ⟨#[c0, c1, c2, c3, c4]⟩] wx fun e w' => e = .returned (.tuple #[.agg #[.string ⟨#[c0]⟩, .int .i64 fr, .int .i64 tt, .int .i64 cn], .bool true]) ∧ Blw wx w') := fun wx => readHead_any c0 c1 c2 c3 c4 true _ wx hh.symm (by rw [hfr, htt, hcn]; rfl)
    clear hfr htt hcn
    have OKE : Hid (ok = ((([c0] == [(73 : UInt8)]) || ([c0] == [(70 : UInt8)])) && readOk t)) := by show _ = _; rw [HOK.out, hh]; rfl
    clear HOK hh
    go_enter Tryz.func29, Tryz.ntmps29
    go_upto_region 1 with fail
    rw [← hw0]
    clear hw0
    go_wp2_with fail
    rw [HX0.out]
    refine (HH.out _).mono ?_
    rintro e w1 ⟨rfl, b1⟩
    have M1 := hid (M0.out.on b1)
    clear b1
    go_upto_region 4 with fail
    have M2 := hid (M1.out.on ((Blw.rfl w1).al (.cells #[.string ⟨#[c0]⟩, .int .i64 fr, .int .i64 tt, .int .i64 cn] 71)))
    have K2 := hid (hp_new w1 (.cells #[.string ⟨#[c0]⟩, .int .i64 fr, .int .i64 tt, .int .i64 cn] 71))
    have hlt : w.heap.size + 1 < w1.heap.size := lt_of_blk M1.out.z
    generalize w1.alloc (.cells #[.string ⟨#[c0]⟩, .int .i64 fr, .int .i64 tt, .int .i64 cn] 71) = w2 at *
    generalize w1.heap.size = hb at *
    have k0 := blk_cell K2.out 0
    clear M1 M0
    cases hx1 : ([c0] == [(73 : UInt8)])
    · cases hx2 : ([c0] == [(70 : UInt8)])
      · have E : Hid (ok = false) := by show _ = _; rw [OKE.out, hx1, hx2]; rfl
        clear HY1 OKE HR
        obtain ⟨x0, x1, x2, x3, ha⟩ := M2.out.a
        have hw := M2.out.fail.2
        have MFx := hid M2.out.fail.1
        unfold set4 at hw
        have a0 := blk_cell ha 0
        have a1 := blk_cell ha 1
        have a2 := blk_cell ha 2
        have a3 := blk_cell ha 3
        have f0 := blk_frozen ha 0
        have f1 := blk_frozen ha 1
        have f2 := blk_frozen ha 2
        have f3 := blk_frozen ha 3
        clear ha
        go_wp2_with fail
        have m1 := MFx.out.a
        have m2 := MFx.out.z
        have m3 := MFx.out.bl
        have HI := HIZ.out
        unfold set4 at m1 m2 m3
        
        clear hw MFx a0 a1 a2 a3 f0 f1 f2 f3
        generalize putRowAt ((((w2.setCell ⟨w.heap.size, 0, none⟩ (.string ⟨#[]⟩)).setCell ⟨w.heap.size, 1, none⟩ (.int .i64 0)).setCell ⟨w.heap.size, 2, none⟩ (.int .i64 0)).setCell ⟨w.heap.size, 3, none⟩ (.int .i64 0)) (w.heap.size + 1) 0 (.agg Tryz.zeroCells65) = wz at *
        generalize Tryz.zeroCells65 = Z at *
        exact bodyPost_ret (results_2rows rfl _ _ w.heap.size (w.heap.size + 1) 71 65 (headArr [] 0 0 0) Z (0, 0) (0, 0) _ _ (by rfl) m1 Tryz.underlying71 rfl size69 (by rfl) m2 Tryz.underlying65 rfl HI) rfl ⟨by rw [(NO.out E.out).1, (NO.out E.out).2, E.out]; rfl, m3⟩
      · have hx3 : ([c0] != [(73 : UInt8)]) = true := by rw [bne, hx1]; rfl
        have hx4 : ([c0] != [(70 : UInt8)]) = false := by rw [bne, hx2]; rfl
        have hx : (([c0] == [(73 : UInt8)]) || ([c0] == [(70 : UInt8)])) = true := by rw [hx1, hx2]; rfl
        go_wp2_with fail
        rw [HX5.out]
        refine (HR.out _).mono ?_
        rintro e w3 ⟨rfl, b3⟩
        have M3 := hid (M2.out.on b3)
        have K3 := hid (b3.bk' K2.out)
        have hlt3 := Nat.lt_of_lt_of_le hlt (Nat.le_of_lt (lt_of_blk K3.out))
        clear b3 k0
        go_upto_region 9 with fail
        have bz : Hid (Blw w3 (putRowAt (w3.alloc (.cells Tryz.zeroCells65 65)) w3.heap.size 0 (.agg (readP t).arr))) := put_blw ((Blw.rfl w3).al _) _ _ (Nat.le_refl _)
        have Q4 : Hid ((putRowAt (w3.alloc (.cells Tryz.zeroCells65 65)) w3.heap.size 0 (.agg (readP t).arr)).heap[w3.heap.size]? = some (.cells (readP t).arr 65)) := put_new
        have M4 := hid (M3.out.on bz.out)
        have K4 := hid (bz.out.bk' K3.out)
        have hlt4 := lt_of_blk K3.out
        generalize putRowAt (w3.alloc (.cells Tryz.zeroCells65 65)) w3.heap.size 0 (.agg (readP t).arr) = w4 at *
        generalize w3.heap.size = qb at *
        clear bz M3 K3
        cases hro : readOk t
        · have E : Hid (ok = false) := by show _ = _; rw [OKE.out, hro]; simp
          clear HY1 OKE HR
          obtain ⟨x0, x1, x2, x3, ha⟩ := M4.out.a
          have hw := M4.out.fail.2
          have MFx := hid M4.out.fail.1
          unfold set4 at hw
          have a0 := blk_cell ha 0
          have a1 := blk_cell ha 1
          have a2 := blk_cell ha 2
          have a3 := blk_cell ha 3
          have f0 := blk_frozen ha 0
          have f1 := blk_frozen ha 1
          have f2 := blk_frozen ha 2
          have f3 := blk_frozen ha 3
          clear ha
          go_wp2_with fail
          have m1 := MFx.out.a
          have m2 := MFx.out.z
          have m3 := MFx.out.bl
          have HI := HIZ.out
          unfold set4 at m1 m2 m3
          
          clear hw MFx a0 a1 a2 a3 f0 f1 f2 f3
          generalize putRowAt ((((w4.setCell ⟨w.heap.size, 0, none⟩ (.string ⟨#[]⟩)).setCell ⟨w.heap.size, 1, none⟩ (.int .i64 0)).setCell ⟨w.heap.size, 2, none⟩ (.int .i64 0)).setCell ⟨w.heap.size, 3, none⟩ (.int .i64 0)) (w.heap.size + 1) 0 (.agg Tryz.zeroCells65) = wz at *
          generalize Tryz.zeroCells65 = Z at *
          exact bodyPost_ret (results_2rows rfl _ _ w.heap.size (w.heap.size + 1) 71 65 (headArr [] 0 0 0) Z (0, 0) (0, 0) _ _ (by rfl) m1 Tryz.underlying71 rfl size69 (by rfl) m2 Tryz.underlying65 rfl HI) rfl ⟨by rw [(NO.out E.out).1, (NO.out E.out).2, E.out]; rfl, m3⟩
        · have E : Hid (ok = true) := by show _ = _; rw [OKE.out, hro, hx]; rfl
          have EY := hid (HY1.out E.out)
          obtain ⟨x0, x1, x2, x3, ha⟩ := M4.out.a
          have hz := M4.out.z
          have a0 := blk_cell ha 0
          have a1 := blk_cell ha 1
          have a2 := blk_cell ha 2
          have a3 := blk_cell ha 3
          have f0 := blk_frozen ha 0
          have f1 := blk_frozen ha 1
          have f2 := blk_frozen ha 2
          have f3 := blk_frozen ha 3
          have k0 := blk_cell K4.out 0
          have k1 := blk_cell K4.out 1
          have k2 := blk_cell K4.out 2
          have k3 := blk_cell K4.out 3
          have hrow := rowOf_pc Q4.out
          have hhas := Has_pc Q4.out
          have hw1 : HasW w4 (w.heap.size + 1) 0 := HasW_of hz zle63
          have hw2 : HasW (set4 w4 w.heap.size (.string ⟨#[c0]⟩) (.int .i64 fr) (.int .i64 tt) (.int .i64 cn)) (w.heap.size + 1) 0 := HasW_of (set4_ne (A := w.heap.size) hz (by omega) _ _ _ _) zle63
          unfold set4 at hw2
          have hap : (putRowAt w4 (w.heap.size + 1) 0 (.agg (readP t).arr)).heap[w.heap.size]? = some (.cells #[x0, x1, x2, x3] 71) := (put_ne (by omega)).trans ha
          have b0 := blk_cell hap 0
          have b1 := blk_cell hap 1
          have b2 := blk_cell hap 2
          have b3 := blk_cell hap 3
          have e0 := blk_frozen hap 0
          have e1 := blk_frozen hap 1
          have e2 := blk_frozen hap 2
          have e3 := blk_frozen hap 3
          have q2 : (set4 w4 w.heap.size (.string ⟨#[c0]⟩) (.int .i64 fr) (.int .i64 tt) (.int .i64 cn)).heap[qb]? = some (.cells (readP t).arr 65) := set4_ne (A := w.heap.size) Q4.out (by omega) _ _ _ _
          unfold set4 at q2
          have hrow2 := rowOf_pc q2
          have hhas2 := Has_pc q2
          have hkp : (putRowAt w4 (w.heap.size + 1) 0 (.agg (readP t).arr)).heap[hb]? = some (.cells #[.string ⟨#[c0]⟩, .int .i64 fr, .int .i64 tt, .int .i64 cn] 71) := (put_ne (by omega)).trans K4.out
          have g0 := blk_cell hkp 0
          have g1 := blk_cell hkp 1
          have g2 := blk_cell hkp 2
          have g3 := blk_cell hkp 3
          generalize readP t = qq at *
          have HAA := hid ha
          have HZZ := hid hz
          have BL4 := hid M4.out.bl
          clear hap ha hz hkp q2 M2 M4 K2 HX0 HX5 HR h5 h300 h5' OKE NO HY1
          go_upto_region 11 with fail
          clear hlt hlt3 hlt4 hro hx hx1 hx3 hx2 hx4 K4 Q4 HYS
          go_region
          have n1 := set4_self HAA.out (.string ⟨#[c0]⟩) (.int .i64 fr) (.int .i64 tt) (.int .i64 cn)
          have n2 := set4_ne (A := w.heap.size) HZZ.out (by omega) (.string ⟨#[c0]⟩) (.int .i64 fr) (.int .i64 tt) (.int .i64 cn)
          have n3 := (set4_blw BL4.out (Nat.le_refl w.heap.size) (.string ⟨#[c0]⟩) (.int .i64 fr) (.int .i64 tt) (.int .i64 cn)).dr
          unfold set4 at n1 n2 n3
          have m1 : (putRowAt ((((w4.setCell ⟨w.heap.size, 0, none⟩ (.string ⟨#[c0]⟩)).setCell ⟨w.heap.size, 1, none⟩ (.int .i64 fr)).setCell ⟨w.heap.size, 2, none⟩ (.int .i64 tt)).setCell ⟨w.heap.size, 3, none⟩ (.int .i64 cn)).drew (w.heap.size + 1) 0 (.agg qq.arr)).heap[w.heap.size]? = some (.cells (headArr [c0] fr tt cn) 71) := (put_ne (by omega)).trans n1
          have m2 : (putRowAt ((((w4.setCell ⟨w.heap.size, 0, none⟩ (.string ⟨#[c0]⟩)).setCell ⟨w.heap.size, 1, none⟩ (.int .i64 fr)).setCell ⟨w.heap.size, 2, none⟩ (.int .i64 tt)).setCell ⟨w.heap.size, 3, none⟩ (.int .i64 cn)).drew (w.heap.size + 1) 0 (.agg qq.arr)).heap[w.heap.size + 1]? = some (.cells qq.arr 65) := put_pc (show (World.drew _).heap[w.heap.size + 1]? = _ from n2) zsize63
          have m3 : Blw w (putRowAt ((((w4.setCell ⟨w.heap.size, 0, none⟩ (.string ⟨#[c0]⟩)).setCell ⟨w.heap.size, 1, none⟩ (.int .i64 fr)).setCell ⟨w.heap.size, 2, none⟩ (.int .i64 tt)).setCell ⟨w.heap.size, 3, none⟩ (.int .i64 cn)).drew (w.heap.size + 1) 0 (.agg qq.arr)) := put_blw n3 _ _ (by omega)
          have HIQ : (Tryz.prog.info? 65).map (·.size) = some qq.arr.size := by rw [size63, Pc.size]
          clear n1 n2 n3 hrow hhas hrow2 hhas2 hw1 hw2 a0 a1 a2 a3 f0 f1 f2 f3 k0 k1 k2 k3 b0 b1 b2 b3 e0 e1 e2 e3 g0 g1 g2 g3
          generalize putRowAt ((((w4.setCell ⟨w.heap.size, 0, none⟩ (.string ⟨#[c0]⟩)).setCell ⟨w.heap.size, 1, none⟩ (.int .i64 fr)).setCell ⟨w.heap.size, 2, none⟩ (.int .i64 tt)).setCell ⟨w.heap.size, 3, none⟩ (.int .i64 cn)).drew (w.heap.size + 1) 0 (.agg qq.arr) = wz at *
          go_wp2_with fail
          exact bodyPost_ret (results_2rows rfl _ _ w.heap.size (w.heap.size + 1) 71 65 (headArr [c0] fr tt cn) qq.arr (0, 0) (0, 0) _ _ (by rfl) m1 Tryz.underlying71 rfl size69 (by rfl) m2 Tryz.underlying65 rfl HIQ) rfl ⟨by rw [EY.out.1, EY.out.2, E.out]; rfl, m3⟩
    · have hx3 : ([c0] != [(73 : UInt8)]) = false := by rw [bne, hx1]; rfl
      have hx : (([c0] == [(73 : UInt8)]) || ([c0] == [(70 : UInt8)])) = true := by rw [hx1]; rfl
      go_wp2_with fail
      rw [HX5.out]
      refine (HR.out _).mono ?_
      rintro e w3 ⟨rfl, b3⟩
      have M3 := hid (M2.out.on b3)
      have K3 := hid (b3.bk' K2.out)
      have hlt3 := Nat.lt_of_lt_of_le hlt (Nat.le_of_lt (lt_of_blk K3.out))
      clear b3 k0
      go_upto_region 9 with fail
      have bz : Hid (Blw w3 (putRowAt (w3.alloc (.cells Tryz.zeroCells65 65)) w3.heap.size 0 (.agg (readP t).arr))) := put_blw ((Blw.rfl w3).al _) _ _ (Nat.le_refl _)
      have Q4 : Hid ((putRowAt (w3.alloc (.cells Tryz.zeroCells65 65)) w3.heap.size 0 (.agg (readP t).arr)).heap[w3.heap.size]? = some (.cells (readP t).arr 65)) := put_new
      have M4 := hid (M3.out.on bz.out)
      have K4 := hid (bz.out.bk' K3.out)
      have hlt4 := lt_of_blk K3.out
      generalize putRowAt (w3.alloc (.cells Tryz.zeroCells65 65)) w3.heap.size 0 (.agg (readP t).arr) = w4 at *
      generalize w3.heap.size = qb at *
      clear bz M3 K3
      cases hro : readOk t
      · have E : Hid (ok = false) := by show _ = _; rw [OKE.out, hro]; simp
        clear HY1 OKE HR
        obtain ⟨x0, x1, x2, x3, ha⟩ := M4.out.a
        have hw := M4.out.fail.2
        have MFx := hid M4.out.fail.1
        unfold set4 at hw
        have a0 := blk_cell ha 0
        have a1 := blk_cell ha 1
        have a2 := blk_cell ha 2
        have a3 := blk_cell ha 3
        have f0 := blk_frozen ha 0
        have f1 := blk_frozen ha 1
        have f2 := blk_frozen ha 2
        have f3 := blk_frozen ha 3
        clear ha
        go_wp2_with fail
        have m1 := MFx.out.a
        have m2 := MFx.out.z
        have m3 := MFx.out.bl
        have HI := HIZ.out
        unfold set4 at m1 m2 m3
        
        clear hw MFx a0 a1 a2 a3 f0 f1 f2 f3
        generalize putRowAt ((((w4.setCell ⟨w.heap.size, 0, none⟩ (.string ⟨#[]⟩)).setCell ⟨w.heap.size, 1, none⟩ (.int .i64 0)).setCell ⟨w.heap.size, 2, none⟩ (.int .i64 0)).setCell ⟨w.heap.size, 3, none⟩ (.int .i64 0)) (w.heap.size + 1) 0 (.agg Tryz.zeroCells65) = wz at *
        generalize Tryz.zeroCells65 = Z at *
        exact bodyPost_ret (results_2rows rfl _ _ w.heap.size (w.heap.size + 1) 71 65 (headArr [] 0 0 0) Z (0, 0) (0, 0) _ _ (by rfl) m1 Tryz.underlying71 rfl size69 (by rfl) m2 Tryz.underlying65 rfl HI) rfl ⟨by rw [(NO.out E.out).1, (NO.out E.out).2, E.out]; rfl, m3⟩
      · have E : Hid (ok = true) := by show _ = _; rw [OKE.out, hro, hx]; rfl
        have EY := hid (HY1.out E.out)
        obtain ⟨x0, x1, x2, x3, ha⟩ := M4.out.a
        have hz := M4.out.z
        have a0 := blk_cell ha 0
        have a1 := blk_cell ha 1
        have a2 := blk_cell ha 2
        have a3 := blk_cell ha 3
        have f0 := blk_frozen ha 0
        have f1 := blk_frozen ha 1
        have f2 := blk_frozen ha 2
        have f3 := blk_frozen ha 3
        have k0 := blk_cell K4.out 0
        have k1 := blk_cell K4.out 1
        have k2 := blk_cell K4.out 2
        have k3 := blk_cell K4.out 3
        have hrow := rowOf_pc Q4.out
        have hhas := Has_pc Q4.out
        have hw1 : HasW w4 (w.heap.size + 1) 0 := HasW_of hz zle63
        have hw2 : HasW (set4 w4 w.heap.size (.string ⟨#[c0]⟩) (.int .i64 fr) (.int .i64 tt) (.int .i64 cn)) (w.heap.size + 1) 0 := HasW_of (set4_ne (A := w.heap.size) hz (by omega) _ _ _ _) zle63
        unfold set4 at hw2
        have hap : (putRowAt w4 (w.heap.size + 1) 0 (.agg (readP t).arr)).heap[w.heap.size]? = some (.cells #[x0, x1, x2, x3] 71) := (put_ne (by omega)).trans ha
        have b0 := blk_cell hap 0
        have b1 := blk_cell hap 1
        have b2 := blk_cell hap 2
        have b3 := blk_cell hap 3
        have e0 := blk_frozen hap 0
        have e1 := blk_frozen hap 1
        have e2 := blk_frozen hap 2
        have e3 := blk_frozen hap 3
        have q2 : (set4 w4 w.heap.size (.string ⟨#[c0]⟩) (.int .i64 fr) (.int .i64 tt) (.int .i64 cn)).heap[qb]? = some (.cells (readP t).arr 65) := set4_ne (A := w.heap.size) Q4.out (by omega) _ _ _ _
        unfold set4 at q2
        have hrow2 := rowOf_pc q2
        have hhas2 := Has_pc q2
        have hkp : (putRowAt w4 (w.heap.size + 1) 0 (.agg (readP t).arr)).heap[hb]? = some (.cells #[.string ⟨#[c0]⟩, .int .i64 fr, .int .i64 tt, .int .i64 cn] 71) := (put_ne (by omega)).trans K4.out
        have g0 := blk_cell hkp 0
        have g1 := blk_cell hkp 1
        have g2 := blk_cell hkp 2
        have g3 := blk_cell hkp 3
        generalize readP t = qq at *
        have HAA := hid ha
        have HZZ := hid hz
        have BL4 := hid M4.out.bl
        clear hap ha hz hkp q2 M2 M4 K2 HX0 HX5 HR h5 h300 h5' OKE NO HY1
        go_upto_region 11 with fail
        clear hlt hlt3 hlt4 hro hx hx1 hx3  K4 Q4 HYS
        go_region
        have n1 := set4_self HAA.out (.string ⟨#[c0]⟩) (.int .i64 fr) (.int .i64 tt) (.int .i64 cn)
        have n2 := set4_ne (A := w.heap.size) HZZ.out (by omega) (.string ⟨#[c0]⟩) (.int .i64 fr) (.int .i64 tt) (.int .i64 cn)
        have n3 := (set4_blw BL4.out (Nat.le_refl w.heap.size) (.string ⟨#[c0]⟩) (.int .i64 fr) (.int .i64 tt) (.int .i64 cn)).dr
        unfold set4 at n1 n2 n3
        have m1 : (putRowAt ((((w4.setCell ⟨w.heap.size, 0, none⟩ (.string ⟨#[c0]⟩)).setCell ⟨w.heap.size, 1, none⟩ (.int .i64 fr)).setCell ⟨w.heap.size, 2, none⟩ (.int .i64 tt)).setCell ⟨w.heap.size, 3, none⟩ (.int .i64 cn)).drew (w.heap.size + 1) 0 (.agg qq.arr)).heap[w.heap.size]? = some (.cells (headArr [c0] fr tt cn) 71) := (put_ne (by omega)).trans n1
        have m2 : (putRowAt ((((w4.setCell ⟨w.heap.size, 0, none⟩ (.string ⟨#[c0]⟩)).setCell ⟨w.heap.size, 1, none⟩ (.int .i64 fr)).setCell ⟨w.heap.size, 2, none⟩ (.int .i64 tt)).setCell ⟨w.heap.size, 3, none⟩ (.int .i64 cn)).drew (w.heap.size + 1) 0 (.agg qq.arr)).heap[w.heap.size + 1]? = some (.cells qq.arr 65) := put_pc (show (World.drew _).heap[w.heap.size + 1]? = _ from n2) zsize63
        have m3 : Blw w (putRowAt ((((w4.setCell ⟨w.heap.size, 0, none⟩ (.string ⟨#[c0]⟩)).setCell ⟨w.heap.size, 1, none⟩ (.int .i64 fr)).setCell ⟨w.heap.size, 2, none⟩ (.int .i64 tt)).setCell ⟨w.heap.size, 3, none⟩ (.int .i64 cn)).drew (w.heap.size + 1) 0 (.agg qq.arr)) := put_blw n3 _ _ (by omega)
        have HIQ : (Tryz.prog.info? 65).map (·.size) = some qq.arr.size := by rw [size63, Pc.size]
        clear n1 n2 n3 hrow hhas hrow2 hhas2 hw1 hw2 a0 a1 a2 a3 f0 f1 f2 f3 k0 k1 k2 k3 b0 b1 b2 b3 e0 e1 e2 e3 g0 g1 g2 g3
        generalize putRowAt ((((w4.setCell ⟨w.heap.size, 0, none⟩ (.string ⟨#[c0]⟩)).setCell ⟨w.heap.size, 1, none⟩ (.int .i64 fr)).setCell ⟨w.heap.size, 2, none⟩ (.int .i64 tt)).setCell ⟨w.heap.size, 3, none⟩ (.int .i64 cn)).drew (w.heap.size + 1) 0 (.agg qq.arr) = wz at *
        go_wp2_with fail
        exact bodyPost_ret (results_2rows rfl _ _ w.heap.size (w.heap.size + 1) 71 65 (headArr [c0] fr tt cn) qq.arr (0, 0) (0, 0) _ _ (by rfl) m1 Tryz.underlying71 rfl size69 (by rfl) m2 Tryz.underlying65 rfl HIQ) rfl ⟨by rw [EY.out.1, EY.out.2, E.out]; rfl, m3⟩

end Go.Proofs.YtalaldfgjgpacaaGreatDoor
