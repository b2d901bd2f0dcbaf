import Derived.Test.YtalaldfgjgpacaaGreatDoorML
import Derived.OwnWalk
import Derived.Sort.Walk0
import Derived.Test.YtalaldfgjgpacaaGreatDoorProg
import Derived.KernelRfl
import Derived.BigQuiet
namespace Go.Proofs.YtalaldfgjgpacaaGreatDoor
set_option linter.unusedVariables false
set_option linter.unusedSimpArgs false
open Go.RowKit

/-- Texts as cells. -/
def strV (l : Bs) : Value := .string ⟨l.toArray⟩
def strs (L : List Bs) : List Value := L.map strV

theorem strs_len (L : List Bs) : (strs L).length = L.length := by simp [strs]

/-- A slice of texts, its row among the blocks from base on. -/
def Ls (w : World) (base : Nat) (v : Value) (L : List Bs) : Prop := w.ownsRow base 9 1 v L.length (strs L)

theorem Ls.nil (w : World) (base : Nat) : Ls w base (.slice none 0 0) [] := World.ownsRow_nil _ _ _ _

theorem Ls.weak {w : World} {a b : Nat} {v : Value} {L : List Bs} (h : Ls w a v L) (hb : b ≤ a) : Ls w b v L := by
  refine ⟨h.1, ?_⟩
  rcases h.2 with hn | ⟨g, cap, cur, e, hg, r⟩
  · exact .inl hn
  · exact .inr ⟨g, cap, cur, e, Nat.le_trans hb hg, r⟩

theorem Ls.on {w w' : World} {a : Nat} {v : Value} {L : List Bs} (h : Ls w a v L) (hb : Blw w w') : Ls w' a v L := by
  refine ⟨h.1, ?_⟩
  rcases h.2 with hn | ⟨g, cap, cur, e, hg, hh, r⟩
  · exact .inl hn
  · exact .inr ⟨g, cap, cur, e, hg, (hb.bk g (Array.getElem?_eq_some_iff.1 hh).1).trans hh, r⟩

/-- The row's block. -/
theorem Ls.kept {w w' : World} {a : Nat} {v : Value} {L : List Bs} (h : Ls w a v L) (hb : ∀ g C, v.ownBlock = some g → w.heap[g]? = some (.cells C 9) → w'.heap[g]? = w.heap[g]?) : Ls w' a v L := by
  refine ⟨h.1, ?_⟩
  rcases h.2 with hn | ⟨g, cap, cur, e, hg, hh, r⟩
  · exact .inl hn
  · exact .inr ⟨g, cap, cur, e, hg, (hb g cur (by rw [e]; rfl) hh).trans hh, r⟩

/-- How a slice of texts is read. -/
theorem Ls.op {w : World} {a : Nat} {v : Value} {L : List Bs} (h : Ls w a v L) : ∃ (ao : Option Addr) (cap : Nat), v = .slice ao L.length cap ∧
    (0 < L.length → ∃ g, ao = some ⟨g, 0, none⟩ ∧ g < w.heap.size ∧ ∀ k, k < L.length → w.cell? ⟨g, k, none⟩ = some (strV (L.getD k []))) := by
  rcases h.2 with ⟨rfl, hn⟩ | ⟨g, cap, cur, rfl, hg, hh, h1, h2, h3, h4⟩
  · exact ⟨none, 0, by rw [hn], fun hp => by omega⟩
  · refine ⟨some ⟨g, 0, none⟩, cap, rfl, fun _ => ⟨g, rfl, (Array.getElem?_eq_some_iff.1 hh).1, fun k hk => ?_⟩⟩
    rw [blk_cell hh]
    have e : cur[k]? = (strs L)[k]? := by
      rw [← h4, List.getElem?_take_of_lt (by omega)]; simp
    rw [e]
    simp [strs, hk, List.getD]

theorem bs_data (l : Bs) : (ByteArray.mk l.toArray).data.toList = l := by simp
theorem bs_size (l : Bs) : (ByteArray.mk l.toArray).size = l.length := by simp [ByteArray.size]
theorem bs_toList (l : Bs) : (ByteArray.mk l.toArray).toList = l := by rw [Lib.toList_data]
theorem bs_eta (s : ByteArray) : ByteArray.mk s.data.toList.toArray = s := by cases s; simp
theorem strV_eta (s : ByteArray) : strV s.data.toList = .string s := by unfold strV; rw [bs_eta]
theorem bs_extract (l : Bs) (i j : Nat) : (ByteArray.mk l.toArray).extract i j = ByteArray.mk ((l.drop i).take (j - i)).toArray := by
  apply ByteArray.ext
  simp [ByteArray.data_extract, List.extract_eq_take_drop]
theorem str_less (x y : Bs) : Op.bytesLess x y = decide (x < y) := bytesLess_eq x y

theorem list_app_idx {α : Type} (L : List α) (k : Nat) (d : α) (h : k < L.length) : L.take (k + 1) = L.take k ++ [L.getD k d] := by
  rw [List.take_succ_eq_append_getElem h]; simp [List.getD, h]

end Go.Proofs.YtalaldfgjgpacaaGreatDoor

namespace Go.Proofs.YtalaldfgjgpacaaGreatDoor
set_option linter.unusedVariables false
set_option linter.unusedSimpArgs false
open Go.RowKit

theorem infoS : (Tryz.prog.info? 9).map (fun i => (i.zero, i.size, i.bytes)) = some (some (.string ⟨#[]⟩), 1, 16) := by kernel_rfl

def hasTo (L : List Bs) (s : Bs) : Nat → Bool
  | 0 => false
  | k + 1 => hasTo L s k || (L.getD k [] == s)

theorem hasTo_eq (L : List Bs) (s : Bs) : ∀ k, k ≤ L.length → hasTo L s k = hasL (L.take k) s := by
  intro k
  induction k with
  | zero => intro _; simp [hasTo, hasL]
  | succ k ih =>
    intro hk
    rw [hasTo, ih (by omega), list_app_idx L k [] (by omega)]
    simp only [hasL, List.contains_append]
    congr 1
    rw [Bool.eq_iff_iff]
    simp [List.contains_cons]
    exact eq_comm

theorem hasTo_all (L : List Bs) (s : Bs) : hasTo L s L.length = hasL L s := by rw [hasTo_eq L s _ (Nat.le_refl _), List.take_length]

theorem hasTo_hit (L : List Bs) (s : Bs) (k : Nat) (hk : k < L.length) (h : (L.getD k [] == s) = true) : hasL L s = true := by
  rw [hasL_iff]
  have : L.getD k [] = s := by simpa using h
  rw [← this, List.getD_eq_getElem?_getD, List.getElem?_eq_getElem hk]
  exact List.getElem_mem hk

set_option maxHeartbeats 400000 in
theorem has_any (L : List Bs) (s : Bs) (v : Value) (a : Nat) (w : World) (h : Ls w a v L) (hl : L.length ≤ 100000) :
    Calls Tryz.prog 149 #[v, strV s] w fun e w' => e = .returned (.bool (hasL L s)) ∧ w' = w := by
  obtain ⟨ao, cap, rfl, hop⟩ := h.op
  obtain ⟨t, ht⟩ : ∃ t, t = hasL L s := ⟨_, rfl⟩
  rw [← ht]
  have HT := hid ht
  have HO := hid hop
  have HH := hid (hasTo_hit L s)
  have HA := hid (hasTo_all L s)
  clear ht h hop
  unfold strV
  go_enter Tryz.func149, Tryz.ntmps149
  go_wp2
  go_loop [5] (fun i => ∃ k : Nat, k ≤ L.length ∧ i = .int .i64 k ∧ hasTo L s k = false) (fun i => L.length - (intOf i).toNat)
  case atStart => exact ⟨0, by omega, rfl, rfl⟩
  case round =>
    obtain ⟨k, hk, rfl, hd⟩ := hrel
    have HD := hid hd
    clear hd
    by_cases hlt : k < L.length
    · obtain ⟨g, rfl, hg, hc⟩ := HO.out (by omega)
      have hck := hc k hlt
      unfold strV at hck
      have HS : Hid (hasTo L s (k + 1) = (hasTo L s k || (L.getD k [] == s))) := rfl
      have HHk := hid (HH.out k hlt)
      clear hc
      generalize L.getD k [] = x at *
      cases hb : (x == s)
      · have HB := hid hb
        go_wp2
        go_round
        case rel => exact ⟨k + 1, by omega, by go_num, by rw [HS.out, HD.out, HB.out]; rfl⟩
        case measure => simp [intOf]; omega
      · have HB := hid hb
        go_wp2
        go_ret
        exact ⟨by rw [HT.out, HHk.out HB.out]; rfl, rfl⟩
    · have hkn : k = L.length := by omega
      have HF : Hid (t = false) := by
        show t = false
        rw [HT.out, ← HA.out, ← hkn]; exact HD.out
      subst hkn
      go_wp2
      go_ret
      exact ⟨by rw [HF.out]; rfl, rfl⟩
end Go.Proofs.YtalaldfgjgpacaaGreatDoor

namespace Go.Proofs.YtalaldfgjgpacaaGreatDoor
set_option linter.unusedVariables false
set_option linter.unusedSimpArgs false
open Go.RowKit

/-- How far 'with' has come. -/
def withTo (L : List Bs) (s : Bs) (k : Nat) (put : Bool) (out : List Bs) : Prop :=
  if put then out ++ L.drop k = withL L s else out = L.take k ∧ withL L s = L.take k ++ withL (L.drop k) s

theorem drop_idx (L : List Bs) (k : Nat) (h : k < L.length) : L.drop k = L.getD k [] :: L.drop (k + 1) := by
  rw [List.drop_eq_getElem_cons h]; simp [List.getD, h]

theorem withTo_zero (L : List Bs) (s : Bs) : withTo L s 0 false [] := by simp [withTo]

theorem withTo_put (L : List Bs) (s : Bs) (k : Nat) (out : List Bs) (hk : k < L.length) (h : withTo L s k true out) : withTo L s (k + 1) true (out ++ [L.getD k []]) := by
  simp only [withTo, if_true] at h ⊢
  rw [← h, drop_idx L k hk]; simp
theorem withTo_now (L : List Bs) (s : Bs) (k : Nat) (out : List Bs) (hk : k < L.length) (h : withTo L s k false out) (hlt : decide (s < L.getD k []) = true) : withTo L s (k + 1) true ((out ++ [s]) ++ [L.getD k []]) := by
  simp only [withTo, Bool.false_eq_true, if_false, if_true] at h ⊢
  obtain ⟨h1, h2⟩ := h
  rw [h2, drop_idx L k hk, withL, if_pos (by simpa using hlt), h1]; simp
theorem withTo_not (L : List Bs) (s : Bs) (k : Nat) (out : List Bs) (hk : k < L.length) (h : withTo L s k false out) (hlt : decide (s < L.getD k []) = false) : withTo L s (k + 1) false (out ++ [L.getD k []]) := by
  simp only [withTo, Bool.false_eq_true, if_false] at h ⊢
  obtain ⟨h1, h2⟩ := h
  refine ⟨by rw [h1, list_app_idx L k [] hk], ?_⟩
  rw [h2, drop_idx L k hk, withL, if_neg (by simpa using hlt), list_app_idx L k [] hk]; simp
theorem withTo_end1 (L : List Bs) (s : Bs) (out : List Bs) (h : withTo L s L.length true out) : out = withL L s := by
  simpa [withTo] using h
theorem withTo_end0 (L : List Bs) (s : Bs) (out : List Bs) (h : withTo L s L.length false out) : out ++ [s] = withL L s := by
  simp only [withTo, Bool.false_eq_true, if_false] at h
  rw [h.2, h.1]; simp [withL]

theorem ownBlw {w w' w0 : World} {v : Value} {L : List Bs} (hb : Blw w0 w) (h : Ls w w0.heap.size v L) (hg : w.grownBy w' v.ownBlock) : Blw w0 w' := by
  refine ⟨hg.os.trans hb.os, hg.tape.trans hb.tape, hg.output.trans hb.output, Nat.le_trans hb.sz hg.size, fun k hk => ?_⟩
  rw [hg.block k (Nat.lt_of_lt_of_le hk hb.sz) (fun e => by have := (World.ownsRow.lt h k e.symm).1; omega)]
  exact hb.bk k hk

theorem Ls.snoc {w : World} {base : Nat} {v : Value} {L : List Bs} {x : Bs} (h : w.ownsRow base 9 1 v (L.length + 1) (strs L ++ [strV x])) : Ls w base v (L ++ [x]) := by
  unfold Ls
  have e : strs (L ++ [x]) = strs L ++ [strV x] := by simp [strs]
  rw [e]; simpa using h

theorem one_cell_at (w : World) (v : Value) (t : TypeId) : ∀ j u, [v][j]? = some u → (w.alloc (.cells #[v] t)).cell? ((⟨w.heap.size, 0, none⟩ : Addr).add j) = some u := by
  intro j u hj
  match j, hj with
  | 0, hj => simp at hj; subst hj; simp [Addr.add]
theorem one_cell_one (l : Bs) : ∀ u ∈ [strV l], u.oneCell' = true := by
  intro u hu; simp at hu; subst hu; rfl

set_option maxRecDepth 100000 in
set_option maxHeartbeats 2000000 in
theorem with_any (L : List Bs) (s : Bs) (v : Value) (a : Nat) (w : World) (h : Ls w a v L) (hl : L.length ≤ 100000) :
    Calls Tryz.prog 141 #[v, strV s] w fun e w' => ∃ v', e = .returned v' ∧ Ls w' w.heap.size v' (withL L s) ∧ Blw w w' := by
  obtain ⟨ao, cap, rfl, hop⟩ := h.op
  have HO := hid hop
  have H := hid h
  clear h hop
  obtain ⟨i0, hi, hz0, hz1, hz2⟩ := info_parts infoS
  unfold strV
  go_enter Tryz.func141, Tryz.ntmps141
  go_wp2
  go_loopw [5, 6, 7] (fun o p i wr => ∃ (k : Nat) (b : Bool) (out : List Bs), k ≤ L.length ∧ i = .int .i64 k ∧ p = .bool b ∧ out.length ≤ k + (if b then 1 else 0) ∧ withTo L s k b out ∧ Ls wr w.heap.size o out ∧ Blw w wr) (fun _ _ i _ => L.length - (intOf i).toNat)
  case atStart => exact ⟨0, false, [], by omega, rfl, rfl, by simp, withTo_zero L s, Ls.nil _ _, Blw.rfl _⟩
  case round =>
    obtain ⟨k, b, out, hk, rfl, rfl, hol, hwt, hls, hbl⟩ := hrel
    have HW := hid hwt
    have HL := hid hls
    have HB := hid hbl
    have hsz := hbl.sz
    clear hwt hls hbl
    by_cases hlt : k < L.length
    · obtain ⟨g, rfl, hg, hc⟩ := HO.out (by omega)
      have hck := (bcell HB.out).1 g k hg
      rw [hc k hlt] at hck
      unfold strV at hck
      have HT1 := hid (withTo_put L s k)
      have HT2 := hid (withTo_now L s k)
      have HT3 := hid (withTo_not L s k)
      clear hc
      generalize hx : L.getD k [] = x at *
      have HX := hid hx
      clear hx
      cases b
      · have hol0 : out.length ≤ k := by simpa using hol
        cases hc : decide (s < x)
        · have hc' : Op.bytesLess s x = false := by rw [str_less]; exact hc
          have HC := hid hc
          clear hc
          go_wp2_with (first | (at_builtin; refine wpList_append_own _ rfl _ _ 34 rfl w.heap.size 9 i0 (.string ⟨#[]⟩) 1 16 Tryz.underlying34 hi hz0 hz1 hz2 rfl (by decide) _ _ _ rfl (World.ownsRow.alloc HL.out _) ⟨wr.heap.size, 0, none⟩ 1 1 [strV x] rfl rfl (one_cell_at _ _ _) (one_cell_one x) (by unfold maxLen; omega) (by omega) (by simp; omega) ?_))
          intro v' w1 ho' hgr _
          have R1 := hid (Ls.snoc ho')
          have R2 := hid (ownBlw (HB.out.al _) (World.ownsRow.alloc HL.out _) hgr)
          clear ho' hgr
          go_wp2
          go_roundw
          case rel => exact ⟨k + 1, false, out ++ [x], by omega, by go_num, rfl, by simp; omega, HT3.out out hlt HW.out HC.out, R1.out, R2.out⟩
          case measure => simp [intOf]; omega
        · have hc' : Op.bytesLess s x = true := by rw [str_less]; exact hc
          have HC := hid hc
          have HN := hid (HT2.out out hlt HW.out HC.out)
          clear hc
          go_wp2_with (first | (at_builtin; refine wpList_append_own _ rfl _ _ 34 rfl w.heap.size 9 i0 (.string ⟨#[]⟩) 1 16 Tryz.underlying34 hi hz0 hz1 hz2 rfl (by decide) _ _ _ rfl (World.ownsRow.alloc HL.out _) ⟨wr.heap.size, 0, none⟩ 1 1 [strV s] rfl rfl (one_cell_at _ _ _) (one_cell_one s) (by unfold maxLen; omega) (by omega) (by simp; omega) ?_))
          intro v' w1 ho' hgr _
          have R1 := hid (Ls.snoc ho')
          have R2 := hid (ownBlw (HB.out.al _) (World.ownsRow.alloc HL.out _) hgr)
          have hs1 := R2.out.sz
          have hck1 := (bcell R2.out).1 g k hg
          rw [← (bcell HB.out).1 g k hg, hck] at hck1
          clear ho' hgr hck
          have hl1 : (out ++ [s]).length = out.length + 1 := by simp
          generalize out ++ [s] = out1 at *
          go_wp2_with (first | (at_builtin; refine wpList_append_own _ rfl _ _ 34 rfl w.heap.size 9 i0 (.string ⟨#[]⟩) 1 16 Tryz.underlying34 hi hz0 hz1 hz2 rfl (by decide) _ _ _ rfl (World.ownsRow.alloc R1.out _) ⟨w1.heap.size, 0, none⟩ 1 1 [strV x] rfl rfl (one_cell_at _ _ _) (one_cell_one x) (by unfold maxLen; omega) (by omega) (by simp; omega) ?_))
          intro v2 w2 ho' hgr _
          rw [← hl1] at ho'
          have R3 := hid (Ls.snoc ho')
          have R4 := hid (ownBlw (R2.out.al _) (World.ownsRow.alloc R1.out _) hgr)
          clear ho' hgr
          go_wp2
          go_roundw
          case rel => exact ⟨k + 1, true, out1 ++ [x], by omega, by go_num, rfl, by simp; omega, HN.out, R3.out, R4.out⟩
          case measure => simp [intOf]; omega
      · have hol0 : out.length ≤ k + 1 := by simpa using hol
        go_wp2_with (first | (at_builtin; refine wpList_append_own _ rfl _ _ 34 rfl w.heap.size 9 i0 (.string ⟨#[]⟩) 1 16 Tryz.underlying34 hi hz0 hz1 hz2 rfl (by decide) _ _ _ rfl (World.ownsRow.alloc HL.out _) ⟨wr.heap.size, 0, none⟩ 1 1 [strV x] rfl rfl (one_cell_at _ _ _) (one_cell_one x) (by unfold maxLen; omega) (by omega) (by simp; omega) ?_))
        intro v' w1 ho' hgr _
        have R1 := hid (Ls.snoc ho')
        have R2 := hid (ownBlw (HB.out.al _) (World.ownsRow.alloc HL.out _) hgr)
        clear ho' hgr
        go_wp2
        go_roundw
        case rel => exact ⟨k + 1, true, out ++ [x], by omega, by go_num, rfl, by simp; omega, HT1.out out hlt HW.out, R1.out, R2.out⟩
        case measure => simp [intOf]; omega
    · have hkn : k = L.length := by omega
      subst hkn
      cases b
      · have hol0 : out.length ≤ L.length := by simpa using hol
        have HE := hid (withTo_end0 L s out HW.out)
        go_wp2_with (first | (at_builtin; refine wpList_append_own _ rfl _ _ 34 rfl w.heap.size 9 i0 (.string ⟨#[]⟩) 1 16 Tryz.underlying34 hi hz0 hz1 hz2 rfl (by decide) _ _ _ rfl (World.ownsRow.alloc HL.out _) ⟨wr.heap.size, 0, none⟩ 1 1 [strV s] rfl rfl (one_cell_at _ _ _) (one_cell_one s) (by unfold maxLen; omega) (by omega) (by simp; omega) ?_))
        intro v' w1 ho' hgr _
        have R1 := hid (Ls.snoc ho')
        have R2 := hid (ownBlw (HB.out.al _) (World.ownsRow.alloc HL.out _) hgr)
        clear ho' hgr
        go_wp2
        go_ret
        exact ⟨_, rfl, by rw [← HE.out]; exact R1.out, R2.out⟩
      · have HE := hid (withTo_end1 L s out HW.out)
        go_wp2
        go_ret
        exact ⟨_, rfl, by rw [← HE.out]; exact HL.out, HB.out⟩
end Go.Proofs.YtalaldfgjgpacaaGreatDoor

namespace Go.Proofs.YtalaldfgjgpacaaGreatDoor
set_option linter.unusedVariables false
set_option linter.unusedSimpArgs false
open Go.RowKit

set_option maxHeartbeats 400000 in
theorem dot_any (e : Bs) (w : World) (h : e.length = 7) :
    Calls Tryz.prog 142 #[strV e] w fun r w' => r = .returned (strV (dotOf e)) ∧ w' = w := by
  have hz := bs_size e
  have HX := hid (bs_extract e 2 4)
  unfold strV dotOf
  go_enter Tryz.func142, Tryz.ntmps142
  go_wp2
  go_ret
  exact ⟨by rw [← HX.out]; rfl, rfl⟩

/-- The document's piece in memory. -/
structure PcAt (w : World) (a b : Value) (D E : List Bs) : Prop where
  d : Ls w 0 a D
  e : Ls w 0 b E
  dl : D.length ≤ 20000
  el : E.length ≤ 20000
  e7 : ∀ x ∈ E, x.length = 7
  d2 : ∀ x ∈ D, ∃ c0 c1 : UInt8, x = [c0, c1] ∧ 48 ≤ c0.toNat

theorem PcAt.on {w w' : World} {a b : Value} {D E : List Bs} (h : PcAt w a b D E) (hb : Blw w w') : PcAt w' a b D E := ⟨h.d.on hb, h.e.on hb, h.dl, h.el, h.e7, h.d2⟩

theorem Blw.drn {a w : World} (h : Blw a w) (n : Nat) : Blw a (w.drewN n) := ⟨h.os, h.tape, h.output, h.size, fun k hk => h.block k hk⟩

/-- Join on its way. -/
structure JR (w wr : World) (a b a' b' : Value) (X Y : List Bs) : Prop where
  a : wr.heap[w.heap.size]? = some (.cells #[a, b] 120)
  b : wr.heap[w.heap.size + 1]? = some (.cells #[a', b'] 120)
  c : wr.heap[w.heap.size + 1 + 1]? = some (.cells #[.slice none 0 0, .slice none 0 0] 120)
  o : ∃ o1 o2, wr.heap[w.heap.size + 1 + 1 + 1]? = some (.cells #[o1, o2] 120) ∧ Ls wr 0 o1 X ∧ Ls wr 0 o2 Y
  bl : Blw w wr

theorem JR.on {w wr w2 : World} {a b a' b' : Value} {X Y : List Bs} (h : JR w wr a b a' b' X Y) (k : Blw wr w2) : JR w w2 a b a' b' X Y := by
  obtain ⟨o1, o2, ho, h1, h2⟩ := h.o
  have lt : ∀ {b : Nat} {ob : Obj}, wr.heap[b]? = some ob → b < wr.heap.size := fun hh => (Array.getElem?_eq_some_iff.1 hh).1
  exact ⟨(k.bk _ (lt h.a)).trans h.a, (k.bk _ (lt h.b)).trans h.b, (k.bk _ (lt h.c)).trans h.c, ⟨o1, o2, (k.bk _ (lt ho)).trans ho, h1.on k, h2.on k⟩, h.bl.tr k⟩

theorem Ls.sc {w : World} {a : Nat} {v : Value} {L : List Bs} (h : Ls w a v L) {b o : Nat} {C : Array Value} {t : TypeId} (hb : w.heap[b]? = some (.cells C t)) (ht : t ≠ 9) (u : Value) : Ls (w.setCell ⟨b, o, none⟩ u) a v L := by
  refine h.kept fun g C' _ hg => Below.heap_setCell w ⟨b, o, none⟩ u g ?_
  rintro rfl
  rw [hg] at hb
  simp only [Option.some.injEq, Obj.cells.injEq] at hb
  exact ht hb.2.1.symm

theorem JR.set1 {w wr : World} {a b a' b' : Value} {X Y X' : List Bs} (h : JR w wr a b a' b' X Y) (v : Value) (hv : Ls wr 0 v X') : JR w (wr.setCell ⟨w.heap.size + 1 + 1 + 1, 0, none⟩ v) a b a' b' X' Y := by
  obtain ⟨o1, o2, ho, h1, h2⟩ := h.o
  refine ⟨?_, ?_, ?_, ⟨v, o2, ?_, hv.sc ho (by decide) v, h2.sc ho (by decide) v⟩, h.bl.sc _ _ _ (by omega)⟩
  · rw [Below.heap_setCell wr _ v _ (by simp <;> omega)]; exact h.a
  · rw [Below.heap_setCell wr _ v _ (by simp <;> omega)]; exact h.b
  · rw [Below.heap_setCell wr _ v _ (by simp <;> omega)]; exact h.c
  · rw [heap_setCell_self ho]; rfl
theorem JR.set2 {w wr : World} {a b a' b' : Value} {X Y Y' : List Bs} (h : JR w wr a b a' b' X Y) (v : Value) (hv : Ls wr 0 v Y') : JR w (wr.setCell ⟨w.heap.size + 1 + 1 + 1, 1, none⟩ v) a b a' b' X Y' := by
  obtain ⟨o1, o2, ho, h1, h2⟩ := h.o
  refine ⟨?_, ?_, ?_, ⟨o1, v, ?_, h1.sc ho (by decide) v, hv.sc ho (by decide) v⟩, h.bl.sc _ _ _ (by omega)⟩
  · rw [Below.heap_setCell wr _ v _ (by simp <;> omega)]; exact h.a
  · rw [Below.heap_setCell wr _ v _ (by simp <;> omega)]; exact h.b
  · rw [Below.heap_setCell wr _ v _ (by simp <;> omega)]; exact h.c
  · rw [heap_setCell_self ho]; rfl

theorem JR.start {w : World} {a b a' b' : Value} {X : List Bs} (h : Ls w 0 a X) : JR w ((((w.alloc (.cells #[a, b] 120)).alloc (.cells #[a', b'] 120)).alloc (.cells #[.slice none 0 0, .slice none 0 0] 120)).alloc (.cells #[a, .slice none 0 0] 120)) a b a' b' X [] := by
  have hb : Blw w ((((w.alloc (.cells #[a, b] 120)).alloc (.cells #[a', b'] 120)).alloc (.cells #[.slice none 0 0, .slice none 0 0] 120)).alloc (.cells #[a, .slice none 0 0] 120)) := ((((Blw.rfl _).al _).al _).al _).al _
  refine ⟨?_, ?_, ?_, ⟨a, .slice none 0 0, ?_, h.on hb, Ls.nil _ _⟩, hb⟩
  · exact hp_old _ (by simp <;> omega) (hp_old _ (by simp <;> omega) (hp_old _ (by simp <;> omega) (hp_new _ _)))
  · exact hp_old _ (by simp <;> omega) (hp_old _ (by simp <;> omega) (by simpa using hp_new (w.alloc (.cells #[a, b] 120)) _))
  · exact hp_old _ (by simp <;> omega) (by simpa using hp_new ((w.alloc (.cells #[a, b] 120)).alloc (.cells #[a', b'] 120)) _)
  · simpa using hp_new (((w.alloc (.cells #[a, b] 120)).alloc (.cells #[a', b'] 120)).alloc (.cells #[.slice none 0 0, .slice none 0 0] 120)) _

theorem insAll_take (f : Bs → Bs) (c : Bs → Bool) (out L : List Bs) (k : Nat) (hk : k < L.length) : insAll f c out (L.take (k + 1)) = if c (L.getD k []) then withL (insAll f c out (L.take k)) (f (L.getD k [])) else insAll f c out (L.take k) := by
  rw [list_app_idx L k [] hk, insAll_app, insAll_cons, insAll_nil]

set_option maxRecDepth 100000 in
set_option maxHeartbeats 4000000 in
theorem rjoin_any (a b a' b' : Value) (D E D' E' : List Bs) (w : World) (h : PcAt w a b D E) (h' : PcAt w a' b' D' E') :
    Calls Tryz.prog 111 #[.agg #[a, b], .agg #[a', b']] w fun e w' => ∃ u v, e = .returned (.agg #[u, v]) ∧ Ls w' 0 u (joinD D D') ∧ Ls w' 0 v (joinE D E D' E') ∧ Blw w w' := by
  obtain ⟨ao, ca, rfl, oa⟩ := h.d.op
  obtain ⟨bo, cb, rfl, ob⟩ := h.e.op
  obtain ⟨ao', ca', rfl, oa'⟩ := h'.d.op
  obtain ⟨bo', cb', rfl, ob'⟩ := h'.e.op
  have H := hid h
  have H' := hid h'
  have OB := hid ob
  have OA' := hid oa'
  have OB' := hid ob'
  have ld := h.dl
  have le := h.el
  have ld' := h'.dl
  have le' := h'.el
  clear oa ob oa' ob' h h'
  go_enter Tryz.func111, Tryz.ntmps111
  go_wp2
  go_loopw [6] (fun i wr => ∃ k : Nat, k ≤ D'.length ∧ i = .int .i64 k ∧ JR w wr (.slice ao D.length ca) (.slice bo E.length cb) (.slice ao' D'.length ca') (.slice bo' E'.length cb') (insAll id (fun d => !hasL D d) D (D'.take k)) []) (fun i _ => D'.length - (intOf i).toNat)
  case atStart => exact ⟨0, by omega, rfl, by rw [List.take_zero, insAll_nil]; exact JR.start H.out.d⟩
  case round =>
    obtain ⟨k, hk, rfl, hJ⟩ := hrel
    have J := hid hJ
    obtain ⟨o1, o2, ho, l1, l2⟩ := hJ.o
    have e0 : wr.cell? ⟨w.heap.size + 1, 0, none⟩ = some (.slice ao' D'.length ca') := blk_cell hJ.b 0
    have e1 : wr.cell? ⟨w.heap.size, 0, none⟩ = some (.slice ao D.length ca) := blk_cell hJ.a 0
    have L1 := hid l1
    have HO := hid ho
    clear hJ ho l1 l2
    by_cases hlt : k < D'.length
    · obtain ⟨g, rfl, hg, hc⟩ := OA'.out (by omega)
      have hck := (bcell J.out.bl).1 g k hg
      rw [hc k hlt] at hck
      unfold strV at hck
      have HS := hid (insAll_take id (fun d => !hasL D d) D D' k hlt)
      have hln := insAll_len id (fun d => !hasL D d) (D'.take k) D
      have htl : (D'.take k).length ≤ k := by simp; omega
      generalize insAll id (fun d => !hasL D d) D (D'.take k) = X at *
      clear hc
      generalize D'.getD k [] = x at *
      go_wp2_with fail
      refine (has_any D x _ 0 _ (H.out.d.on J.out.bl) (by omega)).mono ?_
      rintro e w2 ⟨rfl, rfl⟩
      cases hh : hasL D x
      · have e2 : w2.cell? ⟨w.heap.size + 1 + 1 + 1, 0, none⟩ = some o1 := blk_cell HO.out 0
        go_wp2_with fail
        refine (with_any X x _ 0 _ L1.out (by omega)).mono ?_
        rintro e w3 ⟨v', rfl, h3, b3⟩
        obtain ⟨vo, vc, rfl, _⟩ := h3.op
        have J3 := hid (J.out.on b3)
        obtain ⟨p1, p2, ho3, _, _⟩ := J3.out.o
        have e3 : (w3.cell? ⟨w.heap.size + 1 + 1 + 1, 0, none⟩) = some p1 := blk_cell ho3 0
        have f3 := blk_frozen ho3 0
        have J4 := hid (J3.out.set1 _ (h3.weak (Nat.zero_le _)))
        clear ho3 h3 b3 e0 e1 e2
        go_wp2
        go_roundw
        case rel => exact ⟨k + 1, by omega, by go_num, by rw [HS.out, hh]; exact J4.out⟩
        case measure => simp [intOf]; omega
      · go_wp2
        go_roundw
        case rel => exact ⟨k + 1, by omega, by go_num, by rw [HS.out, hh]; exact J.out⟩
        case measure => simp [intOf]; omega
    · have hkn : k = D'.length := by omega
      subst hkn
      have J1 : Hid (JR w wr (.slice ao D.length ca) (.slice bo E.length cb) (.slice ao' D'.length ca') (.slice bo' E'.length cb') (joinD D D') []) := by
        show JR w wr _ _ _ _ _ _
        have := J.out; rw [List.take_length] at this; exact this
      clear J L1 HO e1 hlt hk
      obtain ⟨X, hX⟩ : ∃ X, X = joinD D D' := ⟨_, rfl⟩
      rw [← hX] at J1
      have HX := hid hX
      clear hX
      go_wp2
      clear e0
      go_loopw [9] (fun i wr => ∃ k : Nat, k ≤ E.length ∧ i = .int .i64 k ∧ JR w wr (.slice ao D.length ca) (.slice bo E.length cb) (.slice ao' D'.length ca') (.slice bo' E'.length cb') X (insAll id (fun e => hasL E' e || !hasL D' (dotOf e)) [] (E.take k))) (fun i _ => E.length - (intOf i).toNat)
      case atStart => exact ⟨0, by omega, rfl, by rw [List.take_zero, insAll_nil]; exact J1.out⟩
      case round =>
        obtain ⟨k, hk, rfl, hJ⟩ := hrel
        have J := hid hJ
        obtain ⟨o1, o2, ho, l1, l2⟩ := hJ.o
        have e0 : wr.cell? ⟨w.heap.size + 1, 0, none⟩ = some (.slice ao' D'.length ca') := blk_cell hJ.b 0
        have e0' : wr.cell? ⟨w.heap.size + 1, 1, none⟩ = some (.slice bo' E'.length cb') := blk_cell hJ.b 1
        have e1 : wr.cell? ⟨w.heap.size, 1, none⟩ = some (.slice bo E.length cb) := blk_cell hJ.a 1
        have L2 := hid l2
        have HO := hid ho
        clear hJ ho l1 l2
        by_cases hlt : k < E.length
        · obtain ⟨g, rfl, hg, hc⟩ := OB.out (by omega)
          have hck := (bcell J.out.bl).1 g k hg
          rw [hc k hlt] at hck
          unfold strV at hck
          have HS := hid (insAll_take id (fun e => hasL E' e || !hasL D' (dotOf e)) [] E k hlt)
          have hln := insAll_len id (fun e => hasL E' e || !hasL D' (dotOf e)) (E.take k) []
          have htl : (E.take k).length ≤ k := by simp; omega
          have h7 := hid (H.out.e7 (E.getD k []) (by rw [List.getD_eq_getElem?_getD, List.getElem?_eq_getElem hlt]; exact List.getElem_mem hlt))
          generalize insAll id (fun e => hasL E' e || !hasL D' (dotOf e)) [] (E.take k) = Y at *
          clear hc
          generalize E.getD k [] = x at *
          go_wp2_with fail
          refine (has_any E' x _ 0 _ (H'.out.e.on J.out.bl) (by omega)).mono ?_
          rintro e w2 ⟨rfl, rfl⟩
          go_wp2_with fail
          go_quiet (first | (go_at_call 142; refine Calls.quiet_of_same (dot_any x _ h7.out)) | (go_at_call 149; refine Calls.quiet_of_same (has_any D' (dotOf x) _ 0 _ (H'.out.d.on (J.out.bl.drn _)) (by omega))))
          cases hh : hasL E' x
          · cases hd : hasL D' (dotOf x)
            · have J' := hid (J.out.on ((Blw.rfl w2).drn nq))
              have e2 : (w2.drewN nq).cell? ⟨w.heap.size + 1 + 1 + 1, 1, none⟩ = some o2 := blk_cell HO.out 1
              go_wp2_with fail
              refine (with_any Y x _ 0 _ (L2.out.on ((Blw.rfl w2).drn nq)) (by simp at hln; omega)).mono ?_
              rintro e w3 ⟨v', rfl, h3, b3⟩
              obtain ⟨vo, vc, rfl, _⟩ := h3.op
              have J3 := hid (J'.out.on b3)
              obtain ⟨p1, p2, ho3, _, _⟩ := J3.out.o
              have e3 : (w3.cell? ⟨w.heap.size + 1 + 1 + 1, 1, none⟩) = some p2 := blk_cell ho3 1
              have f3 := blk_frozen ho3 1
              have J4 := hid (J3.out.set2 _ (h3.weak (Nat.zero_le _)))
              clear ho3 h3 b3 e0 e0' e1 e2
              go_wp2
              go_roundw
              case rel => exact ⟨k + 1, by omega, by go_num, by rw [HS.out, hh, hd]; exact J4.out⟩
              case measure => simp [intOf]; omega
            · go_wp2
              go_roundw
              case rel => exact ⟨k + 1, by omega, by go_num, by rw [HS.out, hh, hd]; exact J.out.on ((Blw.rfl w2).drn nq)⟩
              case measure => simp [intOf]; omega
          · have J' := hid (J.out.on ((Blw.rfl w2).drn nq))
            have e2 : (w2.drewN nq).cell? ⟨w.heap.size + 1 + 1 + 1, 1, none⟩ = some o2 := blk_cell HO.out 1
            go_wp2_with fail
            refine (with_any Y x _ 0 _ (L2.out.on ((Blw.rfl w2).drn nq)) (by simp at hln; omega)).mono ?_
            rintro e w3 ⟨v', rfl, h3, b3⟩
            obtain ⟨vo, vc, rfl, _⟩ := h3.op
            have J3 := hid (J'.out.on b3)
            obtain ⟨p1, p2, ho3, _, _⟩ := J3.out.o
            have e3 : (w3.cell? ⟨w.heap.size + 1 + 1 + 1, 1, none⟩) = some p2 := blk_cell ho3 1
            have f3 := blk_frozen ho3 1
            have J4 := hid (J3.out.set2 _ (h3.weak (Nat.zero_le _)))
            clear ho3 h3 b3 e0 e0' e1 e2
            go_wp2
            go_roundw
            case rel => exact ⟨k + 1, by omega, by go_num, by rw [HS.out, hh]; exact J4.out⟩
            case measure => simp [intOf]; omega
        · have hkn : k = E.length := by omega
          subst hkn
          have J2 : Hid (JR w wr (.slice ao D.length ca) (.slice bo E.length cb) (.slice ao' D'.length ca') (.slice bo' E'.length cb') X (insAll id (fun e => hasL E' e || !hasL D' (dotOf e)) [] E)) := by
            show JR w wr _ _ _ _ _ _
            have := J.out; rw [List.take_length] at this; exact this
          clear J L2 HO e0 e0' hlt hk J1
          obtain ⟨Y0, hY⟩ : ∃ Y, Y = insAll id (fun e => hasL E' e || !hasL D' (dotOf e)) [] E := ⟨_, rfl⟩
          have hln0 := insAll_len id (fun e => hasL E' e || !hasL D' (dotOf e)) E []
          rw [← hY] at J2 hln0
          have HY := hid hY
          clear hY
          go_wp2
          clear e1
          go_loopw [13] (fun i wr => ∃ k : Nat, k ≤ E'.length ∧ i = .int .i64 k ∧ JR w wr (.slice ao D.length ca) (.slice bo E.length cb) (.slice ao' D'.length ca') (.slice bo' E'.length cb') X (insAll id (fun e => !hasL D (dotOf e)) Y0 (E'.take k))) (fun i _ => E'.length - (intOf i).toNat)
          case atStart => exact ⟨0, by omega, rfl, by rw [List.take_zero, insAll_nil]; exact J2.out⟩
          case round =>
            obtain ⟨k, hk, rfl, hJ⟩ := hrel
            have J := hid hJ
            obtain ⟨o1, o2, ho, l1, l2⟩ := hJ.o
            have e0 : wr.cell? ⟨w.heap.size + 1, 1, none⟩ = some (.slice bo' E'.length cb') := blk_cell hJ.b 1
            have e1 : wr.cell? ⟨w.heap.size, 0, none⟩ = some (.slice ao D.length ca) := blk_cell hJ.a 0
            have L1 := hid l1
            have L2 := hid l2
            have HO := hid ho
            clear hJ ho l1 l2 J2
            by_cases hlt : k < E'.length
            · obtain ⟨g, rfl, hg, hc⟩ := OB'.out (by omega)
              have hck := (bcell J.out.bl).1 g k hg
              rw [hc k hlt] at hck
              unfold strV at hck
              have HS := hid (insAll_take id (fun e => !hasL D (dotOf e)) Y0 E' k hlt)
              have hln := insAll_len id (fun e => !hasL D (dotOf e)) (E'.take k) Y0
              have htl : (E'.take k).length ≤ k := by simp; omega
              have h7 := hid (H'.out.e7 (E'.getD k []) (by rw [List.getD_eq_getElem?_getD, List.getElem?_eq_getElem hlt]; exact List.getElem_mem hlt))
              simp only [List.length_nil, Nat.zero_add] at hln0
              generalize insAll id (fun e => !hasL D (dotOf e)) Y0 (E'.take k) = Y at *
              clear hc
              generalize E'.getD k [] = x at *
              obtain ⟨w2, hw2⟩ : ∃ w2, w2 = wr := ⟨_, rfl⟩
              subst hw2
              go_wp2_with fail
              go_quiet (first | (go_at_call 142; refine Calls.quiet_of_same (dot_any x _ h7.out)) | (go_at_call 149; refine Calls.quiet_of_same (has_any D (dotOf x) _ 0 _ (H.out.d.on (J.out.bl.drn _)) (by omega))))
              cases hd : hasL D (dotOf x)
              · have J' := hid (J.out.on ((Blw.rfl w2).drn nq))
                have e2 : (w2.drewN nq).cell? ⟨w.heap.size + 1 + 1 + 1, 1, none⟩ = some o2 := blk_cell HO.out 1
                go_wp2_with fail
                refine (with_any Y x _ 0 _ (L2.out.on ((Blw.rfl w2).drn nq)) (by simp at hln; omega)).mono ?_
                rintro e w3 ⟨v', rfl, h3, b3⟩
                obtain ⟨vo, vc, rfl, _⟩ := h3.op
                have J3 := hid (J'.out.on b3)
                obtain ⟨p1, p2, ho3, _, _⟩ := J3.out.o
                have e3 : (w3.cell? ⟨w.heap.size + 1 + 1 + 1, 1, none⟩) = some p2 := blk_cell ho3 1
                have f3 := blk_frozen ho3 1
                have J4 := hid (J3.out.set2 _ (h3.weak (Nat.zero_le _)))
                clear ho3 h3 b3 e0  e1 e2
                go_wp2
                go_roundw
                case rel => exact ⟨k + 1, by omega, by go_num, by rw [HS.out, hd]; exact J4.out⟩
                case measure => simp [intOf]; omega
              · go_wp2
                go_roundw
                case rel => exact ⟨k + 1, by omega, by go_num, by rw [HS.out, hd]; exact J.out.on ((Blw.rfl w2).drn nq)⟩
                case measure => simp [intOf]; omega
            · have hkn : k = E'.length := by omega
              subst hkn
              have J3 : Hid (JR w wr (.slice ao D.length ca) (.slice bo E.length cb) (.slice ao' D'.length ca') (.slice bo' E'.length cb') X (insAll id (fun e => !hasL D (dotOf e)) Y0 E')) := by
                show JR w wr _ _ _ _ _ _
                have := J.out; rw [List.take_length] at this; exact this
              have L2' : Hid (Ls wr 0 o2 (insAll id (fun e => !hasL D (dotOf e)) Y0 E')) := by
                show Ls wr 0 o2 _
                have := L2.out; rw [List.take_length] at this; exact this
              obtain ⟨c1, k1, rfl, _⟩ := L1.out.op
              obtain ⟨c2, k2, rfl, _⟩ := L2'.out.op
              have q0 : wr.cell? ⟨w.heap.size + 1 + 1 + 1, 0, none⟩ = some (.slice c1 X.length k1) := blk_cell HO.out 0
              have q1 : wr.cell? ⟨w.heap.size + 1 + 1 + 1, 1, none⟩ = some (.slice c2 (insAll id (fun e => !hasL D (dotOf e)) Y0 E').length k2) := blk_cell HO.out 1
              have r0 : wr.cell? ⟨w.heap.size + 1 + 1, 0, none⟩ = some (.slice none 0 0) := blk_cell J3.out.c 0
              have r1 : wr.cell? ⟨w.heap.size + 1 + 1, 1, none⟩ = some (.slice none 0 0) := blk_cell J3.out.c 1
              have z0 := blk_frozen J3.out.c 0
              have z1 := blk_frozen J3.out.c 1
              have HJE : Hid (joinE D E D' E' = insAll id (fun e => !hasL D (dotOf e)) Y0 E') := by rw [HY.out]; exact rfl
              generalize insAll id (fun e => !hasL D (dotOf e)) Y0 E' = Z at *
              clear L2 J e1
              go_wp2
              have hs2 := heap_setCell_self (o := 0) J3.out.c (.slice c1 X.length k1)
              refine bodyPost_ret (v := .agg #[.slice c1 X.length k1, .slice c2 Z.length k2]) (by simp [results, Tryz.results111, go_sem, r0, r1]) rfl ⟨_, _, rfl, ?_, ?_, ?_⟩
              · rw [← HX.out]; exact (L1.out.sc J3.out.c (by decide) _).sc hs2 (by decide) _
              · rw [HJE.out]; exact (L2'.out.sc J3.out.c (by decide) _).sc hs2 (by decide) _
              · exact (J3.out.bl.sc _ _ _ (by omega)).sc _ _ _ (by omega)
end Go.Proofs.YtalaldfgjgpacaaGreatDoor
