import Derived.Test.YtkeanpabacfdlaaGreatDoorL4
import Derived.OwnWalk
import Derived.Sort.Walk0
namespace Go.Proofs.YtkeanpabacfdlaaGreatDoor
set_option linter.unusedVariables false
set_option linter.unusedSimpArgs false
open Go.RowKit

/-- Texts as cells. -/
def strV (l : Bs) : Value := .string ⟨l.toArray⟩
def strs (L : List Bs) : List Value := L.map strV

theorem strs_len (L : List Bs) : (strs L).length = L.length := by simp [strs]

/-- A slice of texts, its row among the blocks from base on. -/
def Ls (w : World) (base : Nat) (v : Value) (L : List Bs) : Prop := w.ownsRow base 9 1 v L.length (strs L)

theorem Ls.nil (w : World) (base : Nat) : Ls w base (.slice none 0 0) [] := World.ownsRow_nil _ _ _ _

theorem Ls.weak {w : World} {a b : Nat} {v : Value} {L : List Bs} (h : Ls w a v L) (hb : b ≤ a) : Ls w b v L := by
  refine ⟨h.1, ?_⟩
  rcases h.2 with hn | ⟨g, cap, cur, e, hg, r⟩
  · exact .inl hn
  · exact .inr ⟨g, cap, cur, e, Nat.le_trans hb hg, r⟩

theorem Ls.on {w w' : World} {a : Nat} {v : Value} {L : List Bs} (h : Ls w a v L) (hb : Blw w w') : Ls w' a v L := by
  refine ⟨h.1, ?_⟩
  rcases h.2 with hn | ⟨g, cap, cur, e, hg, hh, r⟩
  · exact .inl hn
  · exact .inr ⟨g, cap, cur, e, hg, (hb.bk g (Array.getElem?_eq_some_iff.1 hh).1).trans hh, r⟩

/-- The row's block. -/
theorem Ls.kept {w w' : World} {a : Nat} {v : Value} {L : List Bs} (h : Ls w a v L) (hb : ∀ g C, v.ownBlock = some g → w.heap[g]? = some (.cells C 9) → w'.heap[g]? = w.heap[g]?) : Ls w' a v L := by
  refine ⟨h.1, ?_⟩
  rcases h.2 with hn | ⟨g, cap, cur, e, hg, hh, r⟩
  · exact .inl hn
  · exact .inr ⟨g, cap, cur, e, hg, (hb g cur (by rw [e]; rfl) hh).trans hh, r⟩

/-- How a slice of texts is read. -/
theorem Ls.op {w : World} {a : Nat} {v : Value} {L : List Bs} (h : Ls w a v L) : ∃ (ao : Option Addr) (cap : Nat), v = .slice ao L.length cap ∧
    (0 < L.length → ∃ g, ao = some ⟨g, 0, none⟩ ∧ g < w.heap.size ∧ ∀ k, k < L.length → w.cell? ⟨g, k, none⟩ = some (strV (L.getD k []))) := by
  rcases h.2 with ⟨rfl, hn⟩ | ⟨g, cap, cur, rfl, hg, hh, h1, h2, h3, h4⟩
  · exact ⟨none, 0, by rw [hn], fun hp => by omega⟩
  · refine ⟨some ⟨g, 0, none⟩, cap, rfl, fun _ => ⟨g, rfl, (Array.getElem?_eq_some_iff.1 hh).1, fun k hk => ?_⟩⟩
    rw [blk_cell hh]
    have e : cur[k]? = (strs L)[k]? := by
      rw [← h4, List.getElem?_take_of_lt (by omega)]; simp
    rw [e]
    simp [strs, hk, List.getD]

theorem bs_data (l : Bs) : (ByteArray.mk l.toArray).data.toList = l := by simp
theorem bs_size (l : Bs) : (ByteArray.mk l.toArray).size = l.length := by simp [ByteArray.size]
theorem bs_toList (l : Bs) : (ByteArray.mk l.toArray).toList = l := by rw [Lib.toList_data]
theorem bs_eta (s : ByteArray) : ByteArray.mk s.data.toList.toArray = s := by cases s; simp
theorem strV_eta (s : ByteArray) : strV s.data.toList = .string s := by unfold strV; rw [bs_eta]
theorem bs_extract (l : Bs) (i j : Nat) : (ByteArray.mk l.toArray).extract i j = ByteArray.mk ((l.drop i).take (j - i)).toArray := by
  apply ByteArray.ext
  simp [ByteArray.data_extract, List.extract_eq_take_drop]
theorem str_less (x y : Bs) : Op.bytesLess x y = decide (x < y) := bytesLess_eq x y

theorem list_app_idx {α : Type} (L : List α) (k : Nat) (d : α) (h : k < L.length) : L.take (k + 1) = L.take k ++ [L.getD k d] := by
  rw [List.take_succ_eq_append_getElem h]; simp [List.getD, h]

end Go.Proofs.YtkeanpabacfdlaaGreatDoor
