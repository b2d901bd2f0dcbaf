import Derived.Test.YtalaldfgjgpacaaDoorWG
namespace Go.Proofs.YtalaldfgjgpacaaDoor
set_option linter.unusedVariables false
set_option linter.unusedSimpArgs false
open Go.RowKit

set_option maxRecDepth 100000 in
set_option maxHeartbeats 1000000 in
theorem ahead_any (cb xb kb b me n : Nat) (p : Pc) (x : Ext) (w : World) (said : List UInt8) (err last : Int) (lg st : List UInt8) (old : Value) (n1 n2 n3 cl : Int) (tok : List UInt8) (hn : n ≤ 3) (hp : p.ok)
    (hc : w.heap[cb]? = some (.cells (clArr n (.slice (some ⟨xb, 0, none⟩) 1 1) (.slice (some ⟨kb, 0, none⟩) 1 1) said err last lg st old n1 n2 n3 cl tok) 49))
    (hx : w.heap[xb]? = some (.cells #[.pointer (some ⟨b, 0, none⟩)] 24)) (hk : w.heap[kb]? = some (.cells #[.slice none 0 0] 29)) (h : w.heap[b]? = some (.cells (repArr me n p x) 67)) (hcb : cb ≠ b) (hcx : cb ≠ xb) (hck : cb ≠ kb) :
    Calls Tryd.prog 16 #[.pointer (some ⟨cb, 0, none⟩), .int .i64 0] w fun e w' => e = .returned (.tuple #[]) ∧ Bx cb w w' ∧ ∃ old', w'.heap[cb]? = some (.cells (clArr n (.slice (some ⟨xb, 0, none⟩) 1 1) (.slice (some ⟨kb, 0, none⟩) 1 1) [] 0 0 x.log (p.digsTo n ++ [59] ++ p.entTo 12) old' 0 0 0 (-1) tok) 49) := by
  have HS := hid (state_any (xt := x) b me n p w hn hp h)
  have HLg := hid (log_any b me n p x w h)
  generalize x.log = lgx at *
  generalize p.digsTo n ++ [59] ++ p.entTo 12 = stx at *
  have c2 : w.cell? ⟨cb, 2, none⟩ = some (.slice (some ⟨xb, 0, none⟩) 1 1) := by rw [blk_cell hc]; rfl
  have x0 : w.cell? ⟨xb, 0, none⟩ = some (.pointer (some ⟨b, 0, none⟩)) := by rw [blk_cell hx]; rfl
  have HC := hid hc
  have HX := hid hx
  have HK := hid hk
  clear hc hx hk h hp
  go_enter Tryd.func16, Tryd.ntmps16
  go_wp2_with fail
  refine HLg.out.mono ?_
  rintro e w0 ⟨rfl, hw0⟩
  subst w0
  go_wp2_with fail
  refine HS.out.mono ?_
  rintro e w1 ⟨rfl, b1⟩
  have g := b1.bk' HC.out
  have c3 : w1.cell? ⟨cb, 3, none⟩ = some (.slice (some ⟨kb, 0, none⟩) 1 1) := by rw [blk_cell g]; rfl
  have k0 : w1.cell? ⟨kb, 0, none⟩ = some (.slice none 0 0) := by rw [blk_cell (b1.bk' HK.out)]; rfl
  have c11 : w1.cell? ⟨cb, 11, none⟩ = some (.int .i64 last) := by rw [blk_cell g]; rfl
  have c12 : w1.cell? ⟨cb, 12, none⟩ = some (.string ⟨lg.toArray⟩) := by rw [blk_cell g]; rfl
  have c13 : w1.cell? ⟨cb, 13, none⟩ = some (.string ⟨st.toArray⟩) := by rw [blk_cell g]; rfl
  have f := blk_frozen g
  clear c2 x0
  have hX : (((w1.setCell ⟨cb, 11, none⟩ (.int .i64 0)).setCell ⟨cb, 12, none⟩ (.string ⟨lgx.toArray⟩)).setCell ⟨cb, 13, none⟩ (.string ⟨stx.toArray⟩)).heap[cb]? = some (.cells (clArr n (.slice (some ⟨xb, 0, none⟩) 1 1) (.slice (some ⟨kb, 0, none⟩) 1 1) said err 0 lgx stx old n1 n2 n3 cl tok) 49) := by
    rw [heap_setCell_self (heap_setCell_self (heap_setCell_self g _) _) _]; rfl
  have hXB : Bx cb w (((w1.setCell ⟨cb, 11, none⟩ (.int .i64 0)).setCell ⟨cb, 12, none⟩ (.string ⟨lgx.toArray⟩)).setCell ⟨cb, 13, none⟩ (.string ⟨stx.toArray⟩)) :=
    (((Blw.bx b1 cb).scs 11 [_]).scs 12 [_]).scs 13 [_]
  have HHX := hid (And.intro hX hXB)
  clear hX hXB b1 g
  go_wp2_with fail
  refine (copied_nil _).mono ?_
  rintro e w2 ⟨⟨ao, rfl⟩, b2⟩
  have g2 := b2.bk' HHX.out.1
  have d4 : w2.cell? ⟨cb, 4, none⟩ = some (.slice none 0 0) := by rw [blk_cell g2]; rfl
  have d5 : w2.cell? ⟨cb, 5, none⟩ = some (.slice none 0 0) := by rw [blk_cell g2]; rfl
  have d6 : w2.cell? ⟨cb, 6, none⟩ = some (.slice none 0 0) := by rw [blk_cell g2]; rfl
  have d9 : w2.cell? ⟨cb, 9, none⟩ = some (.string ⟨said.toArray⟩) := by rw [blk_cell g2]; rfl
  have d10 : w2.cell? ⟨cb, 10, none⟩ = some (.int .i64 err) := by rw [blk_cell g2]; rfl
  have d14 : w2.cell? ⟨cb, 14, none⟩ = some old := by rw [blk_cell g2]; rfl
  have d15 : w2.cell? ⟨cb, 15, none⟩ = some (.int .i64 n1) := by rw [blk_cell g2]; rfl
  have d16 : w2.cell? ⟨cb, 16, none⟩ = some (.int .i64 n2) := by rw [blk_cell g2]; rfl
  have d17 : w2.cell? ⟨cb, 17, none⟩ = some (.int .i64 n3) := by rw [blk_cell g2]; rfl
  have d18 : w2.cell? ⟨cb, 18, none⟩ = some (.int .i64 cl) := by rw [blk_cell g2]; rfl
  have f2 := blk_frozen g2
  have G2 := hid (And.intro g2 (HHX.out.2.tr (Blw.bx b2 cb)))
  clear f c3 k0 c11 c12 c13 b2 g2
  go_wp2
  go_end0
  refine ⟨rfl, (((((((G2.out.2).scs 14 [_]).scs 15 [_]).scs 16 [_]).scs 17 [_]).scs 18 [_]).scs 9 [_]).scs 10 [_], ⟨.slice (some ao) 0 0, ?_⟩⟩
  rw [heap_setCell_self (heap_setCell_self (heap_setCell_self (heap_setCell_self (heap_setCell_self (heap_setCell_self (heap_setCell_self G2.out.1 _) _) _) _) _) _) _]
  rfl

end Go.Proofs.YtalaldfgjgpacaaDoor
