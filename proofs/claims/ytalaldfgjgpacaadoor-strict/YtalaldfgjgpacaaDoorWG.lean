import Derived.Test.YtalaldfgjgpacaaDoorWF
namespace Go.Proofs.YtalaldfgjgpacaaDoor
set_option linter.unusedVariables false
set_option linter.unusedSimpArgs false
open Go.RowKit

theorem log_any (b me n : Nat) (p : Pc) (x : Ext) (w : World) (h : w.heap[b]? = some (.cells (repArr me n p x) 67)) : Calls Tryd.prog 30 #[.pointer (some ⟨b, 0, none⟩)] w fun e w' => e = .returned (.string ⟨x.log.toArray⟩) ∧ w' = w := by
  have c := rep_log h
  clear h
  go_enter Tryd.func30, Tryd.ntmps30
  go_wp2
  go_ret
  exact ⟨rfl, rfl⟩

/-- One step of a script. -/
structure OpR where
  kind : Int
  r : Int
  t : Int
  a : Int
  b : Int
  c : Int
  s : ByteArray

def OpR.cells (o : OpR) : List Value := [.int .i64 o.kind, .int .i64 o.r, .int .i64 o.t, .int .i64 o.a, .int .i64 o.b, .int .i64 o.c, .string o.s]

/-- The steps lie in block sb from off on. -/
def Lies (ops : Nat → OpR) (len sb off : Nat) (w : World) : Prop :=
  ∀ i, i < len → w.cell? ⟨sb, off + i * 7, none⟩ = some (.int .i64 (ops i).kind) ∧ w.cell? ⟨sb, off + i * 7 + 1, none⟩ = some (.int .i64 (ops i).r) ∧ w.cell? ⟨sb, off + i * 7 + 2, none⟩ = some (.int .i64 (ops i).t) ∧
    w.cell? ⟨sb, off + i * 7 + 3, none⟩ = some (.int .i64 (ops i).a) ∧ w.cell? ⟨sb, off + i * 7 + 4, none⟩ = some (.int .i64 (ops i).b) ∧ w.cell? ⟨sb, off + i * 7 + 5, none⟩ = some (.int .i64 (ops i).c) ∧ w.cell? ⟨sb, off + i * 7 + 6, none⟩ = some (.string (ops i).s)

theorem Lies.on {ops : Nat → OpR} {len sb off : Nat} {w w' : World} (h : Lies ops len sb off w) (hb : w'.heap[sb]? = w.heap[sb]?) : Lies ops len sb off w' := by
  intro i hi
  have e : ∀ o, w'.cell? ⟨sb, o, none⟩ = w.cell? ⟨sb, o, none⟩ := fun o => World.cell?_of_block (w := w) (a := ⟨sb, o, none⟩) hb
  simp only [e]
  exact h i hi

def sizeTo (ops : Nat → OpR) (len : Nat) : Nat → Nat
  | 0 => len
  | i + 1 => sizeTo ops len i + (ops i).s.size

set_option maxRecDepth 100000 in
set_option maxHeartbeats 400000 in
theorem small_any (ops : Nat → OpR) (len cap sb off : Nat) (w : World) (hl : len ≤ maxLen) (hs : ∀ i, i < len → (ops i).s.size ≤ 140737488355328) (h : Lies ops len sb off w) :
    Calls Tryd.prog 5 #[.slice (some ⟨sb, off, none⟩) len cap] w fun e w' => (e = .returned (.bool true) ∧ len ≤ 1048576 ∨ e = .returned (.bool false)) ∧ w' = w := by
  unfold maxLen at hl
  by_cases hbig : 1048576 < len
  · clear hs h
    go_enter Tryd.func5, Tryd.ntmps5
    go_wp2
    go_ret
    exact ⟨.inr rfl, rfl⟩
  · have HS := hid hs
    have HL := hid h
    clear hs h
    go_enter Tryd.func5, Tryd.ntmps5
    go_wp2
    go_loop [3, 4] (fun n i => ∃ k m : Nat, k ≤ len ∧ i = .int .i64 k ∧ n = .int .i64 m ∧ m ≤ 1048576) (fun _ i => len - (intOf i).toNat)
    case atStart => exact ⟨0, len, by omega, rfl, rfl, by omega⟩
    case round =>
      obtain ⟨k, m, hk, rfl, rfl, hm⟩ := hrel
      by_cases hlt : k < len
      · obtain ⟨-, -, -, -, -, -, c6⟩ := HL.out k hlt
        have hsz := HS.out k hlt
        by_cases hgt : 1048576 < m + (ops k).s.size
        · go_wp2
          go_ret
          exact ⟨.inr rfl, rfl⟩
        · go_wp2
          go_round
          case rel => exact ⟨k + 1, m + (ops k).s.size, by omega, by go_num, by go_num, by omega⟩
          case measure => simp [intOf]; omega
      · go_wp2
        go_ret
        exact ⟨.inl ⟨rfl, by omega⟩, rfl⟩

theorem small_nil (w : World) : Calls Tryd.prog 5 #[.slice none 0 0] w fun e w' => e = .returned (.bool true) ∧ w' = w := by
  go_enter Tryd.func5, Tryd.ntmps5
  go_wp2
  refine wp_loop_once ?_
  go_wp2
  go_ret
  exact ⟨rfl, rfl⟩

theorem ext_pre (x y : List UInt8) : ((ByteArray.mk (x ++ y).toArray).extract 0 x.length).toList = x := by
  rw [ByteArray.toList_eq, ByteArray.data_extract]
  simp
theorem ext_pre_eq (x y : List UInt8) : (((ByteArray.mk (x ++ y).toArray).extract 0 x.length).toList == x) = true := by rw [ext_pre]; simp

set_option maxRecDepth 100000 in
set_option maxHeartbeats 400000 in
theorem begins_yes (x y : List UInt8) (w : World) (hx : (x ++ y).length ≤ 10000) :
    Calls Tryd.prog 20 #[.string ⟨(x ++ y).toArray⟩, .string ⟨x.toArray⟩] w fun e w' => e = .returned (.bool true) ∧ w' = w := by
  go_enter Tryd.func20, Tryd.ntmps20
  go_wp2
  go_ret
  refine ⟨?_, rfl⟩
  rw [← ext_pre_eq x y]
  rfl

/-- The cluster's row. -/
def clArr (n : Nat) (X K : Value) (said : List UInt8) (err last : Int) (lg st : List UInt8) (old : Value) (nevs nwire nacks client : Int) (tok : List UInt8) : Array Value :=
  #[.int .i64 n, .int .i64 0, X, K, .slice none 0 0, .slice none 0 0, .slice none 0 0, .slice none 0 0, .slice none 0 0, .string ⟨said.toArray⟩, .int .i64 err, .int .i64 last, .string ⟨lg.toArray⟩, .string ⟨st.toArray⟩, old, .int .i64 nevs, .int .i64 nwire, .int .i64 nacks, .int .i64 client, .string ⟨tok.toArray⟩]

set_option maxRecDepth 100000 in
set_option maxHeartbeats 400000 in
theorem copied_nil (w : World) : Calls Tryd.prog 31 #[.slice none 0 0] w fun e w' => (∃ a, e = .returned (.slice (some a) 0 0)) ∧ Blw w w' := by
  have hmk : ∀ wx : World, (Instr.makeSlice 29 (.int .i64 0) (.int .i64 0)).run Tryd.prog wx = .ok (.slice (some ⟨wx.heap.size, 0, none⟩) 0 0) (wx.alloc (.cells #[] 3)) := fun _ => by kernel_rfl
  have hcp : ∀ (wx : World) (a : Addr), (Builtin.copy_ #[29, 29] 3 #[.slice (some a) 0 0, .slice none 0 0]).run Tryd.prog wx = .ok (.int .i64 0) wx := fun _ _ => by kernel_rfl
  go_enter Tryd.func31, Tryd.ntmps31
  go_wp2
  go_ret
  exact ⟨⟨_, rfl⟩, (Blw.rfl _).al _⟩
end Go.Proofs.YtalaldfgjgpacaaDoor
