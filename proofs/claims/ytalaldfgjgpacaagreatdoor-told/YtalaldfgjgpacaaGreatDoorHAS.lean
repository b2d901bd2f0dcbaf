import Derived.Test.YtalaldfgjgpacaaGreatDoorHAF
import Derived.Test.YtalaldfgjgpacaaGreatDoorHAQ
import Derived.Test.YtalaldfgjgpacaaGreatDoorHAR
namespace Go.Proofs.YtalaldfgjgpacaaGreatDoor
set_option linter.unusedVariables false
set_option linter.unusedSimpArgs false
open Go.RowKit
attribute [local go_sem ↓] Go.wp_at_zero Go.wp_at_succ run_load63 run_store63
attribute [local go_sem] blkOf_mk offOf_mk isPt_mk isRow_pc Has_drew HasW_drew rowOf_drew HasW_new Has_alloc rowOf_alloc isRow_zero63

/-- What Take answers and leaves, case by case. -/
structure TakeSpec (ok fm : Bool) (ce : Int) (nw : Bool) (q p : Pc) (x : Ext) (a0 : Bs) (er : Int) (an : Bs) (p' : Pc) (x' : Ext) : Prop where
  h5 : ok = false → er = 5 ∧ an = [] ∧ p' = p ∧ x' = x
  h6 : ok = true → fm = false → er = 6 ∧ an = [] ∧ p' = p ∧ x' = x
  h7 : ok = true → fm = true → ce ≠ 0 → er = ce ∧ an = [] ∧ p' = p ∧ x' = x
  h8 : ok = true → fm = true → ce = 0 → nw = false → er = 0 ∧ an = a0 ∧ p' = p ∧ x' = x
  h9 : ok = true → fm = true → ce = 0 → nw = true → er = 0 ∧ an = a0 ∧ p' = p.join q ∧ x' = x.next q

/-- The two boxes that Take fills. -/
theorem two_boxes (w1 : World) (k0 f t c : Value) (q : Pc) :
    (putRowAt ((w1.alloc (.cells #[k0, f, t, c] 71)).alloc (.cells Tryz.zeroCells65 65)) (w1.heap.size + 1) 0 (.agg q.arr)).heap[w1.heap.size]? = some (.cells #[k0, f, t, c] 71) ∧
    (putRowAt ((w1.alloc (.cells #[k0, f, t, c] 71)).alloc (.cells Tryz.zeroCells65 65)) (w1.heap.size + 1) 0 (.agg q.arr)).heap[w1.heap.size + 1]? = some (.cells q.arr 65) ∧
    Blw w1 (putRowAt ((w1.alloc (.cells #[k0, f, t, c] 71)).alloc (.cells Tryz.zeroCells65 65)) (w1.heap.size + 1) 0 (.agg q.arr)) ∧ HasW ((w1.alloc (.cells #[k0, f, t, c] 71)).alloc (.cells Tryz.zeroCells65 65)) (w1.heap.size + 1) 0 := by
  have b : Blw w1 ((w1.alloc (.cells #[k0, f, t, c] 71)).alloc (.cells Tryz.zeroCells65 65)) := ((Blw.rfl w1).al _).al _
  have ha : ((w1.alloc (.cells #[k0, f, t, c] 71)).alloc (.cells Tryz.zeroCells65 65)).heap[w1.heap.size]? = some (.cells #[k0, f, t, c] 71) := hp_old _ (by simp) (hp_new _ _)
  have hz := hp_new2 w1 (.cells #[k0, f, t, c] 71) (.cells Tryz.zeroCells65 65)
  refine ⟨?_, put_pc hz zsize63, put_blw b _ _ (by omega), HasW_of hz zle63⟩
  rw [put_ne (by omega)]; exact ha

set_option maxRecDepth 100000 in
set_option maxHeartbeats 8000000 in
theorem take_any (b me n : Nat) (p : Pc) (x : Ext) (c0 c1 c2 c3 c4 : UInt8) (t : Bs) (ok : Bool) (er : Int) (an : Bs) (p' : Pc) (x' : Ext) (w : World) (hl : t.length ≤ 295) (hn : n ≤ 3) (hme : me < n) (hx : x.small) (ht : Tab Tryz.prog w)
    (h : w.heap[b]? = some (.cells (repArr me n p x) 69)) (hok : ok = (hdOk c1 c2 c3 c4 && ((([c0] == [(73 : UInt8)]) || ([c0] == [(70 : UInt8)])) && readOk t)))
    (hS : TakeSpec ok (forMe me n (c1.toNat - 48) (c2.toNat - 48)) (checkE n p (readP t)) (decide (p.dots < (p.join (readP t)).dots)) (readP t) p x [65, dig me, dig (c1.toNat - 48), dig (((c3.toNat - 48) * 10 + (c4.toNat - 48)) / 10), dig (((c3.toNat - 48) * 10 + (c4.toNat - 48)) % 10)] er an p' x') :
    Calls Tryz.prog 18 #[.pointer (some ⟨b, 0, none⟩), .string ⟨(c0 :: c1 :: c2 :: c3 :: c4 :: t).toArray⟩] w fun e w' => e = .returned (.tuple #[.string ⟨an.toArray⟩, .int .i64 er]) ∧ RepTo b me n p' x' w w' := by
  have H := hid h
  have T := hid ht
  have S := hid hS
  have HQ := hid (readP_ok t)
  obtain ⟨y, hy⟩ : ∃ y : ByteArray, y = ⟨(c0 :: c1 :: c2 :: c3 :: c4 :: t).toArray⟩ := ⟨_, rfl⟩
  cases hok' : ok
  · have HM : Hid (∀ wx, Calls Tryz.prog 29 #[.string y] wx fun e w' => e = .returned (.tuple #[.agg #[.string ⟨#[]⟩, .int .i64 0, .int .i64 0, .int .i64 0], .agg Pc.empty.arr, .bool false]) ∧ Blw wx w') := by
      intro wx
      rw [hy]
      exact readMsg_any c0 c1 c2 c3 c4 t false _ _ wx hl (by rw [← hok', hok]) (fun e => by cases e) (fun _ => ⟨rfl, rfl⟩)
    obtain ⟨e1, e2, e3, e4⟩ := hS.h5 hok'
    subst e1 e2 e3 e4
    rw [← hy]
    clear hy hok hS S h ht hl hx HQ hok'
    go_enter Tryz.func18, Tryz.ntmps18
    go_wp2_with fail
    refine (HM.out _).mono ?_
    rintro e w1 ⟨rfl, b1⟩
    obtain ⟨k1, k2, k3, k4⟩ := two_boxes w1 (.string ⟨#[]⟩) (.int .i64 0) (.int .i64 0) (.int .i64 0) Pc.empty
    have K3 := hid (b1.tr k3)
    clear k1 k2 k3 b1
    go_wp2
    go_ret2
    exact ⟨rfl, ⟨K3.out.bk' H.out, K3.out.bx b⟩⟩
  · obtain ⟨fr, hfr⟩ : ∃ fr, fr = c1.toNat - 48 := ⟨_, rfl⟩
    obtain ⟨tt, htt⟩ : ∃ tt, tt = c2.toNat - 48 := ⟨_, rfl⟩
    obtain ⟨cn, hcn⟩ : ∃ cn, cn = (c3.toNat - 48) * 10 + (c4.toNat - 48) := ⟨_, rfl⟩
    have hb : fr < 3 ∧ tt < 3 ∧ cn < 100 := by
      rw [hok'] at hok
      have h1 := hok.symm
      simp only [hdOk, Bool.and_eq_true] at h1
      have a1 := (isRepB_iff _).1 h1.1.1
      have a2 := (isRepB_iff _).1 h1.1.2.1
      have a3 := (isDigB_iff _).1 h1.1.2.2.1
      have a4 := (isDigB_iff _).1 h1.1.2.2.2
      omega
    have HM : Hid (∀ wx, Calls Tryz.prog 29 #[.string y] wx fun e w' => e = .returned (.tuple #[.agg #[.string ⟨#[c0]⟩, .int .i64 fr, .int .i64 tt, .int .i64 cn], .agg (readP t).arr, .bool true]) ∧ Blw wx w') := by
      intro wx
      rw [hy, hfr, htt, hcn]
      exact readMsg_any c0 c1 c2 c3 c4 t true _ _ wx hl (by rw [← hok', hok]) (fun _ => ⟨rfl, rfl⟩) (fun e => by cases e)
    rw [← hfr, ← htt, ← hcn] at S
    rw [← hy]
    have hsm := hx
    have HF := hid (fun wx hw => isForMe_any b me n fr tt cn [c0] p x wx hw)
    have HC := hid (fun wx hw => checkPiece_any b me n p (readP t) x wx hn hw)
    have HN := hid (fun wx hw => hasNews_any b me n p (readP t) x wx hw)
    have HL := hid (fun wx ht' hw => learn_any b me n p (readP t) x wx HQ.out hsm ht' hw)
    have HT := hid (fun wx => headText_any 65 me fr cn wx (by omega) (by omega) hb.2.2)
    unfold headArr at HF HT
    clear hy hok hS h ht hl hx hfr htt hcn HQ
    generalize readP t = q at *
    generalize forMe me n fr tt = fm at *
    generalize checkE n p q = ce at *
    generalize decide (p.dots < (p.join q).dots) = nw at *
    go_enter Tryz.func18, Tryz.ntmps18
    go_wp2_with fail
    refine (HM.out _).mono ?_
    rintro e w1 ⟨rfl, b1⟩
    obtain ⟨k1, k2, k3, k4⟩ := two_boxes w1 (.string ⟨#[c0]⟩) (.int .i64 fr) (.int .i64 tt) (.int .i64 cn) q
    have K1 := hid k1
    have K2 := hid k2
    have B2 := hid (b1.tr k3)
    clear k1 k2 k3 b1
    go_upto_region 2 with fail
    generalize putRowAt ((w1.alloc (.cells #[.string ⟨#[c0]⟩, .int .i64 fr, .int .i64 tt, .int .i64 cn] 71)).alloc (.cells Tryz.zeroCells65 65)) (w1.heap.size + 1) 0 (.agg q.arr) = w2 at *
    clear k4
    have G2 := hid (B2.out.bk' H.out)
    generalize hb1 : w1.heap.size = hd at *
    clear hb1
    have d0 := blk_cell K1.out 0
    have d1 := blk_cell K1.out 1
    have d2 := blk_cell K1.out 2
    have d3 := blk_cell K1.out 3
    go_wp2_with fail
    refine (HF.out _ G2.out).mono ?_
    rintro e w3 ⟨rfl, b3⟩
    have G3 := hid (b3.bk' G2.out)
    have L3 := hid (b3.bk' K1.out)
    have P3 := hid (b3.bk' K2.out)
    have B3 := hid (B2.out.tr b3)
    clear b3 d0 d1 d2 d3 G2 K1 K2 B2
    cases fm
    · obtain ⟨e1, e2, e3, e4⟩ := S.out.h6 hok' (by trivial)
      subst e1 e2 e3 e4
      go_wp2
      go_ret2
      exact ⟨rfl, ⟨G3.out, B3.out.bx b⟩⟩
    · have hrow := rowOf_pc P3.out
      have hhas := Has_pc P3.out
      go_wp2_with fail
      refine (HC.out _ G3.out).mono ?_
      rintro e w4 ⟨rfl, b4⟩
      have G4 := hid (b4.bk' G3.out)
      have L4 := hid (b4.bk' L3.out)
      have P4 := hid (b4.bk' P3.out)
      have B4 := hid (B3.out.tr b4)
      clear b4 G3 L3 P3 B3 hrow hhas
      by_cases hce : ¬ ce = 0
      · obtain ⟨e1, e2, e3, e4⟩ := S.out.h7 hok' (by trivial) hce
        subst e2 e3 e4
        have E1 := hid e1
        have hcb : (ce == 0) = false := by simpa using hce
        have hcn : (ce != 0) = true := by rw [bne, hcb]; rfl
        clear e1
        go_wp2
        go_ret2
        exact ⟨by rw [E1.out]; rfl, ⟨G4.out, B4.out.bx b⟩⟩
      · have hce' : ce = 0 := Classical.byContradiction hce
        subst hce'
        have hrow := rowOf_pc P4.out
        have hhas := Has_pc P4.out
        go_wp2_with fail
        refine (HN.out _ G4.out).mono ?_
        rintro e w5 ⟨rfl, b5⟩
        have G5 := hid (b5.bk' G4.out)
        have L5 := hid (b5.bk' L4.out)
        have P5 := hid (b5.bk' P4.out)
        have B5 := hid (B4.out.tr b5)
        clear b5 G4 L4 P4 B4 hrow hhas
        cases nw
        · obtain ⟨e1, e2, e3, e4⟩ := S.out.h8 hok' (by trivial) (by trivial) (by trivial)
          subst e1 e2 e3 e4
          have B6 := hid ((Blw.rfl w5).al (.cells #[.string ⟨#[]⟩, .int .i64 0, .int .i64 0, .int .i64 0] 71))
          have d1 : w5.cell? ⟨hd, 1, none⟩ = some (.int .i64 fr) := blk_cell L5.out 1
          have d3 : w5.cell? ⟨hd, 3, none⟩ = some (.int .i64 cn) := blk_cell L5.out 3
          have m0 : w5.cell? ⟨b, 0, none⟩ = some (.int .i64 me) := blk_cell G5.out 0
          have d1' : (w5.alloc (.cells #[.string ⟨#[]⟩, .int .i64 0, .int .i64 0, .int .i64 0] 71)).cell? ⟨hd, 1, none⟩ = some (.int .i64 fr) := blk_cell (B6.out.bk' L5.out) 1
          have d3' : (w5.alloc (.cells #[.string ⟨#[]⟩, .int .i64 0, .int .i64 0, .int .i64 0] 71)).cell? ⟨hd, 3, none⟩ = some (.int .i64 cn) := blk_cell (B6.out.bk' L5.out) 3
          have m0' : (w5.alloc (.cells #[.string ⟨#[]⟩, .int .i64 0, .int .i64 0, .int .i64 0] 71)).cell? ⟨b, 0, none⟩ = some (.int .i64 me) := blk_cell (B6.out.bk' G5.out) 0
          go_upto_region 11 with fail
          go_region
          have B7 : Hid (Blw w5 (w5.alloc (.cells #[.string ⟨#[65]⟩, .int .i64 me, .int .i64 fr, .int .i64 cn] 71)).drew) := ((Blw.rfl _).al _).dr
          go_wp2_with fail
          refine (HT.out _).mono ?_
          rintro e w8 ⟨rfl, b8⟩
          have B8 := hid (B7.out.tr b8)
          clear b8
          go_wp2
          go_ret2
          exact ⟨rfl, ⟨B8.out.bk' G5.out, (B5.out.tr B8.out).bx b⟩⟩
        · obtain ⟨e1, e2, e3, e4⟩ := S.out.h9 hok' (by trivial) (by trivial) (by trivial)
          subst e1 e2 e3 e4
          have hrow := rowOf_pc P5.out
          have hhas := Has_pc P5.out
          go_wp2_with fail
          refine (HL.out _ (T.out.blw B5.out) G5.out).mono ?_
          rintro e w6 ⟨rfl, r6⟩
          have R6 := hid r6
          have L6 := hid ((r6.2.block hd (lt_of_blk L5.out) (ty_ne L5.out G5.out (by decide))).trans L5.out)
          clear r6 hrow hhas
          have B6 := hid ((Blw.rfl w6).al (.cells #[.string ⟨#[]⟩, .int .i64 0, .int .i64 0, .int .i64 0] 71))
          have d1 : w6.cell? ⟨hd, 1, none⟩ = some (.int .i64 fr) := blk_cell L6.out 1
          have d3 : w6.cell? ⟨hd, 3, none⟩ = some (.int .i64 cn) := blk_cell L6.out 3
          have m0 : w6.cell? ⟨b, 0, none⟩ = some (.int .i64 me) := blk_cell R6.out.1 0
          have d1' : (w6.alloc (.cells #[.string ⟨#[]⟩, .int .i64 0, .int .i64 0, .int .i64 0] 71)).cell? ⟨hd, 1, none⟩ = some (.int .i64 fr) := blk_cell (B6.out.bk' L6.out) 1
          have d3' : (w6.alloc (.cells #[.string ⟨#[]⟩, .int .i64 0, .int .i64 0, .int .i64 0] 71)).cell? ⟨hd, 3, none⟩ = some (.int .i64 cn) := blk_cell (B6.out.bk' L6.out) 3
          have m0' : (w6.alloc (.cells #[.string ⟨#[]⟩, .int .i64 0, .int .i64 0, .int .i64 0] 71)).cell? ⟨b, 0, none⟩ = some (.int .i64 me) := blk_cell (B6.out.bk' R6.out.1) 0
          go_upto_region 11 with fail
          go_region
          have B7 : Hid (Blw w6 (w6.alloc (.cells #[.string ⟨#[65]⟩, .int .i64 me, .int .i64 fr, .int .i64 cn] 71)).drew) := ((Blw.rfl _).al _).dr
          go_wp2_with fail
          refine (HT.out _).mono ?_
          rintro e w8 ⟨rfl, b8⟩
          have B8 := hid (B7.out.tr b8)
          clear b8
          go_wp2
          go_ret2
          exact ⟨rfl, ⟨B8.out.bk' R6.out.1, Bx.tr (Bx.tr (B5.out.bx b) R6.out.2) (B8.out.bx b)⟩⟩
end Go.Proofs.YtalaldfgjgpacaaGreatDoor

namespace Go.Proofs.YtalaldfgjgpacaaGreatDoor
set_option linter.unusedVariables false
set_option linter.unusedSimpArgs false

/-- A log is no longer than its deltas make it. -/
def Ext.short (x : Ext) : Prop := x.log.length ≤ 300 + 248 * x.had

theorem short_zero : Ext.zero.short := by unfold Ext.short; exact Nat.zero_le _
theorem Ext.short.next {x : Ext} (h : x.short) {q : Pc} (hq : q.ok) : (x.next q).short := by
  unfold Ext.short at *
  show (x.log ++ frameL ([68] ++ q.text)).length ≤ 300 + 248 * (x.had + 1)
  rw [List.length_append, frameL_len, List.length_append]
  have := text_len' q hq
  simp only [List.length_cons, List.length_nil]
  omega
theorem Ext.short.compact (x : Ext) {p : Pc} (hp : p.ok) : (x.compact p).short := by
  unfold Ext.short
  show (frameL ([83] ++ lastD x.had 2 ++ p.text)).length ≤ 300 + 248 * x.had
  rw [frameL_len, List.length_append, List.length_append, lastD_len]
  have := text_len' p hp
  simp only [List.length_cons, List.length_nil]
  omega
theorem dots27 (p : Pc) : p.dots ≤ 27 := by
  unfold Pc.dots
  have h0 := Pc.count_le p ((0 : Nat) : Int)
  have h1 := Pc.count_le p ((1 : Nat) : Int)
  have h2 := Pc.count_le p ((2 : Nat) : Int)
  omega
theorem RepOk.fits {n : Nat} {p : Pc} {x : Ext} (h : RepOk n p x) (hs : x.short) : x.log.length ≤ 9000 ∧ x.had < 100 ∧ x.small := by
  have h1 := h.had
  have h2 := dots27 p
  unfold Ext.short at hs
  exact ⟨by omega, by omega, ⟨by omega, by omega⟩⟩
theorem ne_ty {w : World} {a b : Nat} {C D : Array Value} {t u : TypeId} {f f' : Nat × Nat} (h : w.heap[a]? = some (.cells C t f)) (k : w.heap[b]? = some (.cells D u f')) (hne : t ≠ u) : a ≠ b := by
  rintro rfl
  rw [h] at k
  injection k with k
  injection k with _ k _
  exact hne k
end Go.Proofs.YtalaldfgjgpacaaGreatDoor

namespace Go.Proofs.YtalaldfgjgpacaaGreatDoor
set_option linter.unusedVariables false
set_option linter.unusedSimpArgs false
open Go.RowKit
theorem tailJ_fine {L : List Pc} {c : Nat} (hc : c ≤ L.length) (h : ∀ i, i < c → (L.getD i Pc.empty).fine) : ∀ k, k ≤ c → (tailJ L c (c - k)).fine := by
  intro k
  induction k with
  | zero => intro _; rw [tailJ_end _ _ _ (by omega)]; exact fine_empty
  | succ k ih =>
    intro hk
    rw [tailJ_step L c (c - (k + 1)) (by omega) hc, show c - (k + 1) + 1 = c - k by omega]
    exact join_fine (ih (by omega)) (h _ (by omega))
end Go.Proofs.YtalaldfgjgpacaaGreatDoor

namespace Go.Proofs.YtalaldfgjgpacaaGreatDoor
set_option linter.unusedVariables false
set_option linter.unusedSimpArgs false

def upd {α : Type} (f : Nat → α) (r : Nat) (v : α) : Nat → α := fun q => if q = r then v else f q
theorem upd_at {α : Type} (f : Nat → α) (r : Nat) (v : α) : upd f r v r = v := if_pos rfl
theorem upd_ne {α : Type} (f : Nat → α) {r q : Nat} (v : α) (h : q ≠ r) : upd f r v q = f q := if_neg h
theorem upd_self {α : Type} (f : Nat → α) (r : Nat) : upd f r (f r) = f := by
  funext q; unfold upd; split
  · rename_i h; rw [h]
  · rfl

/-- A message or an answer on its way, and what its sender knew. -/
structure Mail where
  text : Bs
  frm : Nat
  dst : Nat
  knows : Vec

theorem held_dots (E : Hist) {K : Vec} (h9 : ∀ w, K w ≤ 9) : (held E K).dots = K 0 + K 1 + K 2 := by
  unfold Pc.dots
  rw [held_count E (by omega) (h9 0), held_count E (by omega) (h9 1), held_count E (by omega) (h9 2)]

theorem Bnd.sup {n : Nat} {K U : Vec} (h : Bnd n K) (k : Bnd n U) : Bnd n (Vec.sup K U) := by
  refine ⟨fun w hw => ?_, fun w => ?_⟩
  · show max (K w) (U w) = 0
    rw [h.out w hw, k.out w hw]; rfl
  · show max (K w) (U w) ≤ 9
    have := h.nine w; have := k.nine w; omega
theorem Bnd.le {n : Nat} {K U : Vec} (h : Bnd n K) (k : Vec.le U K) : Bnd n U := by
  refine ⟨fun w hw => ?_, fun w => Nat.le_trans (k w) (h.nine w)⟩
  have := k w; rw [h.out w hw] at this; omega
theorem GoodE.le {E : Hist} {K U : Vec} (h : GoodE E K) (k : Vec.le U K) : GoodE E U := fun r i hi => h r i (Nat.lt_of_lt_of_le hi (k r))
theorem GoodE.sup {E : Hist} {K U : Vec} (h : GoodE E K) (k : GoodE E U) : GoodE E (Vec.sup K U) := by
  intro r i hi
  rcases Nat.lt_or_ge i (K r) with c | c
  · exact h r i c
  · have h' : i < max (K r) (U r) := hi
    exact k r i (by omega)

/-- A delta fits where it leads on. -/
theorem GoodD.fits {E : Hist} {K U : Vec} {D : Pc} {n : Nat} (h : GoodD E K U D) (hb : Bnd n U) : fitsB n (held E K) D = true := by
  have h1 : ofTo D n 3 = true := by
    rw [ofTo_iff]
    intro r hr
    by_cases c : r < n
    · exact .inl c
    · right
      rw [count_zero_iff _ r hr]
      intro i _
      cases hk : (D r i).known
      · rfl
      · have := h.known hk
        rw [hb.out r (by omega)] at this; omega
  have h2 : clashTo (held E K) D 27 = false := by
    refine clash_none fun r i _ _ f1 f2 => ?_
    have t1 := tame_held E K r i
    have t2 := h.tame r i
    have e1 : held E K r i = (E r i).fil := by
      have : held E K r i = heldSl E K r i := rfl
      rw [this] at f1 ⊢
      rcases t1 with e | e | e
      · rw [e] at f1; cases f1
      · rw [e] at f1; cases f1
      · exact e
    have e2 : D r i = (E r i).fil := by
      rcases t2 with e | e | e
      · rw [e] at f2; cases f2
      · rw [e] at f2; cases f2
      · exact e
    rw [e1, e2]
  have h3 : ((held E K).join D).holeTo 27 = false := by rw [h.leads]; exact hole_of (held_noHole E U)
  unfold fitsB
  rw [h1, h2, h3]; rfl
theorem GoodD.inb {E : Hist} {K U : Vec} {D : Pc} {n : Nat} (h : GoodD E K U D) (hb : Bnd n U) (hn : n ≤ 3) : D.inb := by
  intro r i hri
  have hk : ¬ (D r i).known = true := by
    intro hk
    have h1 := h.known hk
    have h2 := hb.nine r
    by_cases c : r < n
    · exact hri ⟨by omega, by omega⟩
    · rw [hb.out r (by omega)] at h1; omega
  rcases h.tame r i with e | e | e
  · exact e
  · rw [e] at hk; exact absurd rfl hk
  · rw [e] at hk; exact absurd rfl hk
theorem GoodD.news {E : Hist} {K U : Vec} {D : Pc} {n : Nat} (h : GoodD E K U D) (hk : Bnd n K) (hb : Bnd n U) (hn : n ≤ 3) : (held E K).dots < ((held E K).join D).dots ↔ K ≠ U := by
  rw [h.leads, held_dots E hk.nine, held_dots E hb.nine]
  have l0 := h.le 0
  have l1 := h.le 1
  have l2 := h.le 2
  constructor
  · rintro hlt rfl
    omega
  · intro hne
    apply Classical.byContradiction
    intro hge
    apply hne
    funext w
    match w with
    | 0 => omega
    | 1 => omega
    | 2 => omega
    | w + 3 => rw [hk.out _ (by omega), hb.out _ (by omega)]

/-- A replica, by the history. -/
structure RepInv (n : Nat) (E : Hist) (V : Nat → Vec) (p : Pc) (x : Ext) (K : Vec) : Prop where
  ok : RepOk n p x
  short : x.short
  is : p = held E K
  closed : Closed E K
  bnd : Bnd n K
  good : GoodE E K
  v0 : V 0 = Vec.zero
  vh : V x.had = K
  vmono : ∀ a b, a ≤ b → b ≤ x.had → Vec.le (V a) (V b)
  vclosed : ∀ a, a ≤ x.had → Closed E (V a)
  lateLen : x.late.length ≤ x.had
  late : ∀ j, j < x.late.length → GoodD E (V (x.had - j - 1)) (V (x.had - j)) (x.late.getD j Pc.empty)
  ackle : ∀ q, x.ack q ≤ x.had

theorem RepInv.vle {n : Nat} {E : Hist} {V : Nat → Vec} {p : Pc} {x : Ext} {K : Vec} (h : RepInv n E V p x K) {a : Nat} (ha : a ≤ x.had) : Vec.le (V a) K := by
  rw [← h.vh]; exact h.vmono a _ ha (Nat.le_refl _)

theorem RepInv.congr {n : Nat} {E E' : Hist} {V : Nat → Vec} {p : Pc} {x : Ext} {K : Vec} (h : RepInv n E V p x K) (he : ∀ w i, i < K w → E' w i = E w i) : RepInv n E' V p x K := by
  have hv : ∀ a, a ≤ x.had → ∀ w i, i < V a w → E' w i = E w i := fun a ha w i hi => he w i (Nat.lt_of_lt_of_le hi (h.vle ha w))
  refine ⟨h.ok, h.short, by rw [held_congr he]; exact h.is, closed_congr he h.closed, h.bnd, ?_, h.v0, h.vh, h.vmono, fun a ha => closed_congr (hv a ha) (h.vclosed a ha), h.lateLen, fun j hj => (h.late j hj).congr (hv _ (by omega)), h.ackle⟩
  intro r i hi
  rw [he r i hi]; exact h.good r i hi

/-- A replica that learns. -/
theorem RepInv.learn {n : Nat} {E : Hist} {V : Nat → Vec} {p : Pc} {x : Ext} {K U : Vec} {D : Pc} (h : RepInv n E V p x K) (hn : n ≤ 3) (hD : GoodD E K U D) (hb : Bnd n U) (hg : GoodE E U) (hne : K ≠ U) :
    RepInv n E (upd V (x.had + 1) U) (p.join D) (x.next D) U := by
  have hfit := hD.fits hb
  have hnews := (hD.news h.bnd hb hn).2 hne
  have hfine := hD.fine hg
  rw [← h.is] at hfit hnews
  have vle : ∀ a, a ≤ x.had → upd V (x.had + 1) U a = V a := fun a ha => upd_ne _ _ (by omega)
  refine ⟨h.ok.learn D hfine (hD.inb hb hn) hfit hnews, h.short.next hfine.ok, by rw [h.is, hD.leads], hD.cu, hb, hg, ?_, upd_at _ _ _, ?_, ?_, ?_, ?_, ?_⟩
  · rw [vle 0 (Nat.zero_le _)]; exact h.v0
  · intro a b hab hb'
    have hb' : b ≤ x.had + 1 := hb'
    by_cases c : b = x.had + 1
    · subst c
      rw [upd_at]
      by_cases c2 : a = x.had + 1
      · subst c2; rw [upd_at]; exact Vec.le.rfl' _
      · rw [vle a (by omega)]; exact (h.vle (by omega)).tr hD.le
    · rw [vle a (by omega), vle b (by omega)]
      exact h.vmono a b hab (by omega)
  · intro a ha
    have ha : a ≤ x.had + 1 := ha
    by_cases c : a = x.had + 1
    · subst c; rw [upd_at]; exact hD.cu
    · rw [vle a (by omega)]; exact h.vclosed a (by omega)
  · show (D :: x.late).length ≤ x.had + 1
    have := h.lateLen
    simp; exact this
  · intro j hj
    show GoodD E (upd V (x.had + 1) U (x.had + 1 - j - 1)) (upd V (x.had + 1) U (x.had + 1 - j)) ((D :: x.late).getD j Pc.empty)
    cases j with
    | zero =>
      rw [show x.had + 1 - 0 - 1 = x.had by omega, show x.had + 1 - 0 = x.had + 1 by omega, upd_at, vle _ (Nat.le_refl _), h.vh]
      exact hD
    | succ j =>
      have hj' : j < x.late.length := by
        have : j + 1 < (D :: x.late).length := hj
        simpa using this
      have := h.lateLen
      rw [vle _ (by omega), vle _ (by omega), show x.had + 1 - (j + 1) - 1 = x.had - j - 1 by omega, show x.had + 1 - (j + 1) = x.had - j by omega]
      exact h.late j hj'
  · intro q
    have := h.ackle q
    show x.ack q ≤ x.had + 1
    omega

/-- The last deltas, joined. -/
theorem RepInv.tail {n : Nat} {E : Hist} {V : Nat → Vec} {p : Pc} {x : Ext} {K : Vec} (h : RepInv n E V p x K) {c : Nat} (hc : c ≤ x.late.length) : ∀ k, k < c → GoodD E (V (x.had - c)) (V (x.had - (c - 1 - k))) (tailJ x.late c (c - 1 - k)) := by
  intro k
  have hl := h.lateLen
  induction k with
  | zero =>
    intro hk
    rw [show c - 1 - 0 = c - 1 by omega, tailJ_step _ _ _ (by omega) hc, show c - 1 + 1 = c by omega, tailJ_end _ _ _ (Nat.le_refl _)]
    have e : Pc.empty.join (x.late.getD (c - 1) Pc.empty) = x.late.getD (c - 1) Pc.empty := rfl
    rw [e]
    have := h.late (c - 1) (by omega)
    rw [show x.had - (c - 1) - 1 = x.had - c by omega] at this
    exact this
  | succ k ih =>
    intro hk
    have i1 := ih (by omega)
    rw [tailJ_step _ _ (c - 1 - (k + 1)) (by omega) hc, show c - 1 - (k + 1) + 1 = c - 1 - k by omega]
    have := h.late (c - 1 - (k + 1)) (by omega)
    rw [show x.had - (c - 1 - (k + 1)) - 1 = x.had - (c - 1 - k) by omega] at this
    exact i1.two this
theorem RepInv.tail0 {n : Nat} {E : Hist} {V : Nat → Vec} {p : Pc} {x : Ext} {K : Vec} (h : RepInv n E V p x K) {c : Nat} (hc : c ≤ x.late.length) (h0 : 0 < c) : GoodD E (V (x.had - c)) K (tailJ x.late c 0) := by
  have := h.tail hc (c - 1) (by omega)
  rw [show c - 1 - (c - 1) = 0 by omega, show x.had - 0 = x.had by omega, h.vh] at this
  exact this

/-- A message that was sent. -/
structure WireOk (n : Nat) (x : Nat → Ext) (K : Nat → Vec) (E : Hist) (V : Nat → Nat → Vec) (m : Mail) : Prop where
  f : m.frm < n
  t : m.dst < n
  ne : m.frm ≠ m.dst
  is : ∃ (kd : UInt8) (cnt : Nat) (D : Pc) (A : Vec), (kd = 73 ∨ kd = 70) ∧ m.text = headL kd m.frm m.dst cnt ++ D.text ∧ cnt ≤ (x m.frm).had ∧ V m.frm cnt = m.knows ∧ GoodD E A m.knows D ∧ Vec.le A (K m.dst)
/-- An answer that was sent. -/
structure AckOk (n : Nat) (x : Nat → Ext) (K : Nat → Vec) (V : Nat → Nat → Vec) (m : Mail) : Prop where
  f : m.frm < n
  t : m.dst < n
  ne : m.frm ≠ m.dst
  is : ∃ cnt : Nat, m.text = headL 65 m.frm m.dst cnt ∧ cnt ≤ (x m.dst).had ∧ Vec.le (V m.dst cnt) (K m.frm)
/-- The events that there were, in their order. -/
def EvsOk (n : Nat) (K : Nat → Vec) (E : Hist) (evs : List Ev) : Prop :=
  ∃ ds : List (Nat × Nat), ds.Nodup ∧ (∀ d, d ∈ ds ↔ d.1 < n ∧ d.2 < K d.1 d.1) ∧ evs = ds.map fun d => E d.1 d.2

/-- A cluster, by the history. -/
structure Core (n : Nat) (p : Nat → Pc) (x : Nat → Ext) (K : Nat → Vec) (evs : List Ev) (wire acks : List Mail) (E : Hist) (V : Nat → Nat → Vec) : Prop where
  n1 : 1 ≤ n
  n3 : n ≤ 3
  named : Named E
  rep : ∀ r, r < n → RepInv n E (V r) (p r) (x r) (K r)
  tot : ∀ r w, r < n → w < n → K r w ≤ K w w
  ack : ∀ r q, r < n → q < n → q ≠ r → Vec.le (V r ((x r).ack q)) (K q)
  wire : ∀ m, m ∈ wire → WireOk n x K E V m
  acks : ∀ m, m ∈ acks → AckOk n x K V m
  evs : EvsOk n K E evs

section
variable {n : Nat} {p : Nat → Pc} {x : Nat → Ext} {K : Nat → Vec} {evs : List Ev} {wire acks : List Mail} {E : Hist} {V : Nat → Nat → Vec}

theorem WireOk.kle (h : Core n p x K evs wire acks E V) {m : Mail} (hm : WireOk n x K E V m) : Vec.le m.knows (K m.frm) := by
  obtain ⟨kd, cnt, D, A, _, _, hc, hv, _⟩ := hm.is
  rw [← hv]; exact (h.rep _ hm.f).vle hc

theorem Core.totv (h : Core n p x K evs wire acks E V) {r : Nat} (hr : r < n) (w : Nat) : K r w ≤ K w w := by
  by_cases c : w < n
  · exact h.tot r w hr c
  · rw [(h.rep r hr).bnd.out w (by omega)]; exact Nat.zero_le _

theorem Core.push_wire (h : Core n p x K evs wire acks E V) {m : Mail} (hm : WireOk n x K E V m) : Core n p x K evs (wire ++ [m]) acks E V := by
  refine { h with wire := ?_ }
  intro m' hm'
  rcases List.mem_append.1 hm' with c | c
  · exact h.wire m' c
  · rw [List.mem_singleton.1 c]; exact hm
theorem Core.push_ack (h : Core n p x K evs wire acks E V) {m : Mail} (hm : AckOk n x K V m) : Core n p x K evs wire (acks ++ [m]) E V := by
  refine { h with acks := ?_ }
  intro m' hm'
  rcases List.mem_append.1 hm' with c | c
  · exact h.acks m' c
  · rw [List.mem_singleton.1 c]; exact hm

/-- What stands beside is turned at one replica, and it goes on knowing the same. -/
theorem Core.setx (h : Core n p x K evs wire acks E V) {r : Nat} (hr : r < n) (x' : Ext) (hh : x'.had = (x r).had) (hi : RepInv n E (V r) (p r) x' (K r)) (ha : ∀ q, q < n → q ≠ r → Vec.le (V r (x'.ack q)) (K q)) : Core n p (upd x r x') K evs wire acks E V := by
  have hd : ∀ q, (upd x r x' q).had = (x q).had := by
    intro q
    unfold upd
    split
    · rename_i c; rw [c]; exact hh
    · rfl
  refine { h with rep := ?_, ack := ?_, wire := ?_, acks := ?_ }
  · intro q hq
    by_cases c : q = r
    · subst c; rw [upd_at]; exact hi
    · rw [upd_ne _ _ c]; exact h.rep q hq
  · intro q q' hq hq' hne
    by_cases c : q = r
    · subst c; rw [upd_at]; exact ha q' hq' hne
    · rw [upd_ne _ _ c]; exact h.ack q q' hq hq' hne
  · intro m hm
    obtain ⟨f, t, ne, kd, cnt, D, A, h1, h2, h3, h4⟩ := h.wire m hm
    exact ⟨f, t, ne, kd, cnt, D, A, h1, h2, by rw [hd]; exact h3, h4⟩
  · intro m hm
    obtain ⟨f, t, ne, cnt, h2, h3, h4⟩ := h.acks m hm
    exact ⟨f, t, ne, cnt, h2, by rw [hd]; exact h3, h4⟩

theorem bare_bare (x : Ext) : x.bare.bare = x.bare := rfl
theorem RepInv.bare {V : Nat → Vec} {p : Pc} {x : Ext} {K : Vec} (h : RepInv n E V p x K) : RepInv n E V p x.bare K :=
  ⟨⟨h.ok.fine, h.ok.hole, h.ok.inb, h.ok.ofn, h.ok.had, h.ok.log⟩, h.short, h.is, h.closed, h.bnd, h.good, h.v0, h.vh, h.vmono, h.vclosed, Nat.zero_le _, (fun j hj => by cases hj), fun _ => Nat.zero_le _⟩
theorem Core.bare (h : Core n p x K evs wire acks E V) {r : Nat} (hr : r < n) : Core n p (upd x r (x r).bare) K evs wire acks E V :=
  h.setx hr _ rfl (h.rep r hr).bare (fun q _ _ => by
    show Vec.le (V r 0) (K q)
    rw [(h.rep r hr).v0]; exact fun _ => Nat.zero_le _)
theorem RepInv.compact {V : Nat → Vec} {p : Pc} {x : Ext} {K : Vec} (h : RepInv n E V p x K) : RepInv n E V p (x.compact p) K :=
  ⟨h.ok.short, Ext.short.compact x h.ok.fine.ok, h.is, h.closed, h.bnd, h.good, h.v0, h.vh, h.vmono, h.vclosed, h.lateLen, h.late, h.ackle⟩
theorem Core.compact (h : Core n p x K evs wire acks E V) {r : Nat} (hr : r < n) : Core n p (upd x r ((x r).compact (p r))) K evs wire acks E V :=
  h.setx hr _ rfl (h.rep r hr).compact (fun q hq hne => h.ack r q hr hq hne)
/-- An answer comes. -/
theorem Core.setAck (h : Core n p x K evs wire acks E V) {r f cnt : Nat} (hr : r < n) (hf : f < n) (hc : cnt ≤ (x r).had) (hv : Vec.le (V r cnt) (K f)) : Core n p (upd x r ((x r).setAck f cnt)) K evs wire acks E V := by
  have hi := h.rep r hr
  refine h.setx hr _ rfl ⟨⟨hi.ok.fine, hi.ok.hole, hi.ok.inb, hi.ok.ofn, hi.ok.had, hi.ok.log⟩, hi.short, hi.is, hi.closed, hi.bnd, hi.good, hi.v0, hi.vh, hi.vmono, hi.vclosed, hi.lateLen, hi.late, ?_⟩ ?_
  · intro q
    show (if q = f then cnt else (x r).ack q) ≤ (x r).had
    split
    · exact hc
    · exact hi.ackle q
  · intro q hq hne
    show Vec.le (V r (if q = f then cnt else (x r).ack q)) (K q)
    split
    · rename_i c; rw [c]; exact hv
    · exact h.ack r q hr hq hne

/-- A replica learns; the history may have grown. -/
theorem Core.learn (h : Core n p x K evs wire acks E V) {r : Nat} (hr : r < n) {E' : Hist} {U : Vec} {D : Pc} (hn' : Named E') (he : ∀ q, q < n → ∀ w i, i < K q w → E' w i = E w i) (hD : GoodD E' (K r) U D) (hb : Bnd n U) (hg : GoodE E' U) (hne : K r ≠ U)
    (evs' : List Ev) (htot : ∀ q w, q < n → w < n → upd K r U q w ≤ upd K r U w w) (hevs : EvsOk n (upd K r U) E' evs') :
    Core n (upd p r ((p r).join D)) (upd x r ((x r).next D)) (upd K r U) evs' wire acks E' (upd V r (upd (V r) ((x r).had + 1) U)) := by
  have kle : ∀ q, Vec.le (K q) (upd K r U q) := by
    intro q
    unfold upd
    split
    · rename_i c; rw [c]; exact hD.le
    · exact Vec.le.rfl' _
  have hadle : ∀ q, (x q).had ≤ (upd x r ((x r).next D) q).had := by
    intro q
    unfold upd
    split
    · rename_i c; rw [c]; exact Nat.le_succ _
    · exact Nat.le_refl _
  have vle : ∀ q a, a ≤ (x q).had → upd V r (upd (V r) ((x r).had + 1) U) q a = V q a := by
    intro q a ha
    by_cases c : q = r
    · subst c; rw [upd_at, upd_ne _ _ (by omega)]
    · rw [upd_ne _ _ c]
  refine ⟨h.n1, h.n3, hn', ?_, htot, ?_, ?_, ?_, hevs⟩
  · intro q hq
    by_cases c : q = r
    · subst c
      rw [upd_at, upd_at, upd_at, upd_at]
      exact ((h.rep q hq).congr (he q hq)).learn h.n3 hD hb hg hne
    · rw [upd_ne _ _ c, upd_ne _ _ c, upd_ne _ _ c, upd_ne _ _ c]
      exact (h.rep q hq).congr (he q hq)
  · intro q q' hq hq' hne'
    have e : (upd x r ((x r).next D) q).ack q' = (x q).ack q' := by
      unfold upd
      split
      · rename_i c; rw [c]; rfl
      · rfl
    rw [e, vle q _ ((h.rep q hq).ackle q')]
    exact (h.ack q q' hq hq' hne').tr (kle q')
  · intro m hm
    have hw := h.wire m hm
    obtain ⟨f, t, ne, kd, cnt, D', A, h1, h2, h3, h4, h5, h6⟩ := hw
    refine ⟨f, t, ne, kd, cnt, D', A, h1, h2, Nat.le_trans h3 (hadle _), by rw [vle _ _ h3]; exact h4, ?_, h6.tr (kle _)⟩
    exact h5.congr fun w i hi => he m.frm f w i (Nat.lt_of_lt_of_le hi (WireOk.kle h (h.wire m hm) w))
  · intro m hm
    obtain ⟨f, t, ne, cnt, h2, h3, h4⟩ := h.acks m hm
    exact ⟨f, t, ne, cnt, h2, Nat.le_trans h3 (hadle _), by rw [vle _ _ h3]; exact h4.tr (kle _)⟩

theorem add_named_below (h : Core n p x K evs wire acks E V) {r : Nat} (hr : r < n) (e : Ev) : ∀ q, q < n → ∀ w i, i < K q w → E.add r (K r r) e w i = E w i :=
  fun q hq => add_below E e (h.totv hq r)

/-- An event. -/
theorem Core.event (h : Core n p x K evs wire acks E V) {r : Nat} (hr : r < n) (h9 : K r r < 9) (e : Ev) (h1 : e.who = r) (h2 : e.num = K r r + 1) (h3 : e.seen = K r) (hg : e.fil.good) :
    Core n (upd p r ((p r).join (evD (p r) r (K r r) e.kind e.cart e.item e.value))) (upd x r ((x r).next (evD (p r) r (K r r) e.kind e.cart e.item e.value))) (upd K r ((K r).up r)) (evs ++ [e]) wire acks (E.add r (K r r) e) (upd V r (upd (V r) ((x r).had + 1) ((K r).up r))) := by
  have hi := h.rep r hr
  have h3n := h.n3
  have hgd := event_good h.named hi.closed (show r < 3 by omega) e h1 h2 h3
  rw [← hi.is] at hgd
  refine h.learn hr (h.named.add h1 h2) (add_named_below h hr e) hgd ?_ ?_ ?_ _ ?_ ?_
  · refine ⟨fun w hw => ?_, fun w => ?_⟩
    · rw [Vec.up_ne _ (by omega)]; exact hi.bnd.out w hw
    · by_cases c : w = r
      · subst c; rw [Vec.up_at]; omega
      · rw [Vec.up_ne _ c]; exact hi.bnd.nine w
  · intro w i hwi
    by_cases c : w = r ∧ i = K r r
    · obtain ⟨rfl, rfl⟩ := c
      rw [add_at]; exact hg
    · rw [add_ne _ _ c]
      refine hi.good w i ?_
      by_cases c2 : w = r
      · subst c2; rw [Vec.up_at] at hwi
        have : i ≠ K w w := fun e => c ⟨rfl, e⟩
        omega
      · rw [Vec.up_ne _ c2] at hwi; exact hwi
  · intro e'
    have := congrFun e' r
    rw [Vec.up_at] at this; omega
  · intro q w hq hw
    by_cases c : q = r
    · subst c
      rw [upd_at]
      by_cases c2 : w = q
      · subst c2; rw [upd_at]; exact Nat.le_refl _
      · rw [upd_ne _ _ c2, Vec.up_ne _ c2]; exact h.tot q w hq hw
    · rw [upd_ne _ _ c]
      by_cases c2 : w = r
      · subst c2; rw [upd_at, Vec.up_at]
        have := h.tot q w hq hw; omega
      · rw [upd_ne _ _ c2]; exact h.tot q w hq hw
  · obtain ⟨ds, d1, d2, d3⟩ := h.evs
    refine ⟨ds ++ [(r, K r r)], ?_, ?_, ?_⟩
    · rw [List.nodup_append]
      refine ⟨d1, by simp, ?_⟩
      intro a ha b hb hab
      simp at hb
      subst hb; subst hab
      have := ((d2 _).1 ha).2
      exact Nat.lt_irrefl _ this
    · intro d
      rw [List.mem_append, d2, List.mem_singleton]
      constructor
      · rintro (⟨a1, a2⟩ | rfl)
        · refine ⟨a1, ?_⟩
          by_cases c : d.1 = r
          · rw [c] at a2; rw [c, upd_at, Vec.up_at]; omega
          · rw [upd_ne _ _ c]; exact a2
        · refine ⟨hr, ?_⟩
          show K r r < upd K r ((K r).up r) r r
          rw [upd_at, Vec.up_at]; omega
      · rintro ⟨a1, a2⟩
        by_cases c : d.1 = r
        · rw [c, upd_at, Vec.up_at] at a2
          by_cases c2 : d.2 = K r r
          · right; cases d; simp at c c2; subst c; subst c2; rfl
          · left; refine ⟨a1, ?_⟩; rw [c]; omega
        · rw [upd_ne _ _ c] at a2; exact .inl ⟨a1, a2⟩
    · rw [List.map_append, d3]
      congr 1
      · refine List.map_congr_left fun d hd => ?_
        refine (add_ne _ _ ?_).symm
        rintro ⟨c1, c2⟩
        have := ((d2 _).1 hd).2
        rw [c1, c2] at this; omega
      · simp [add_at]

/-- A message comes dst whom it goes. -/
theorem Core.taken (h : Core n p x K evs wire acks E V) {m : Mail} (hm : WireOk n x K E V m) {D : Pc} {A : Vec} (hD : GoodD E A m.knows D) (hA : Vec.le A (K m.dst)) :
    GoodD E (K m.dst) (Vec.sup (K m.dst) m.knows) D ∧ Bnd n (Vec.sup (K m.dst) m.knows) ∧ GoodE E (Vec.sup (K m.dst) m.knows) ∧ Vec.sup (K m.dst) m.knows m.dst = K m.dst m.dst := by
  have hi := h.rep _ hm.t
  have hf := h.rep _ hm.f
  have hk := WireOk.kle h hm
  refine ⟨hD.at h.named hi.closed hA, hi.bnd.sup (hf.bnd.le hk), hi.good.sup (hf.good.le hk), ?_⟩
  show max (K m.dst m.dst) (m.knows m.dst) = _
  have h1 := hk m.dst
  have h2 := h.tot m.frm m.dst hm.f hm.t
  omega
theorem Core.take (h : Core n p x K evs wire acks E V) {m : Mail} (hm : WireOk n x K E V m) {D : Pc} {A : Vec} (hD : GoodD E A m.knows D) (hA : Vec.le A (K m.dst)) (hne : K m.dst ≠ Vec.sup (K m.dst) m.knows) :
    Core n (upd p m.dst ((p m.dst).join D)) (upd x m.dst ((x m.dst).next D)) (upd K m.dst (Vec.sup (K m.dst) m.knows)) evs wire acks E (upd V m.dst (upd (V m.dst) ((x m.dst).had + 1) (Vec.sup (K m.dst) m.knows))) := by
  obtain ⟨g1, g2, g3, g4⟩ := h.taken hm hD hA
  have hself : ∀ w, w < n → upd K m.dst (Vec.sup (K m.dst) m.knows) w w = K w w := by
    intro w hw
    by_cases c : w = m.dst
    · rw [c, upd_at]; exact g4
    · rw [upd_ne _ _ c]
  refine h.learn hm.t h.named (fun q _ w i _ => rfl) g1 g2 g3 hne evs ?_ ?_
  · intro q w hq hw
    rw [hself w hw]
    by_cases c : q = m.dst
    · subst c
      rw [upd_at]
      have h1 := WireOk.kle h hm w
      have h2 := h.tot m.frm w hm.f hw
      have h3 := h.tot m.dst w hq hw
      show max _ _ ≤ _
      omega
    · rw [upd_ne _ _ c]; exact h.tot q w hq hw
  · obtain ⟨ds, d1, d2, d3⟩ := h.evs
    refine ⟨ds, d1, fun d => ?_, d3⟩
    rw [d2]
    constructor
    · rintro ⟨a, b⟩; exact ⟨a, by rw [hself _ a]; exact b⟩
    · rintro ⟨a, b⟩; exact ⟨a, by rw [hself _ a] at b; exact b⟩

/-- A message is written. -/
theorem Core.shipped (h : Core n p x K evs wire acks E V) {r dst : Nat} (hr : r < n) (ht : dst < n) (hne : r ≠ dst) (hs : (x r).had ≠ (x r).ack dst) : WireOk n x K E V ⟨shipL r (p r) (x r) dst ((x r).ack dst), r, dst, K r⟩ := by
  have hi := h.rep r hr
  refine ⟨hr, ht, hne, ?_⟩
  show ∃ kd cnt D A, _
  unfold shipL
  rw [if_neg hs]
  have ha := hi.ackle dst
  by_cases c : (x r).had - (x r).ack dst ≤ (x r).kept
  · rw [if_pos c]
    have hk : (x r).had - (x r).ack dst ≤ (x r).late.length := Nat.le_trans c (Nat.min_le_right _ _)
    refine ⟨73, (x r).had, _, V r ((x r).ack dst), .inl rfl, rfl, Nat.le_refl _, hi.vh, ?_, h.ack r dst hr ht (Ne.symm hne)⟩
    have := hi.tail0 hk (by omega)
    rw [show (x r).had - ((x r).had - (x r).ack dst) = (x r).ack dst by omega] at this
    exact this
  · rw [if_neg c]
    refine ⟨70, (x r).had, p r, Vec.zero, .inr rfl, rfl, Nat.le_refl _, hi.vh, ?_, fun _ => Nat.zero_le _⟩
    rw [hi.is]; exact GoodD.whole hi.closed
theorem Core.quiet (h : Core n p x K evs wire acks E V) {r dst : Nat} (hr : r < n) (ht : dst < n) (hne : r ≠ dst) (hs : (x r).had = (x r).ack dst) : Vec.le (K r) (K dst) := by
  have hi := h.rep r hr
  rw [← hi.vh, hs]; exact h.ack r dst hr ht (Ne.symm hne)
end

/-- A new cluster. -/
theorem Core.start (n : Nat) (E : Hist) (hn : Named E) (h1 : 1 ≤ n) (h3 : n ≤ 3) : Core n (fun _ => Pc.empty) (fun _ => Ext.zero) (fun _ => Vec.zero) [] [] [] E (fun _ _ => Vec.zero) := by
  refine ⟨h1, h3, hn, ?_, fun _ _ _ _ => Nat.le_refl _, fun _ _ _ _ _ _ => Nat.le_refl _, (fun m hm => by cases hm), (fun m hm => by cases hm), ⟨[], List.nodup_nil, ?_, rfl⟩⟩
  · intro r hr
    refine ⟨RepOk.start n, short_zero, (held_zero E).symm, Closed.zero E, ⟨fun _ _ => rfl, fun _ => Nat.zero_le _⟩, (fun r i hi => absurd hi (Nat.not_lt_zero _)), rfl, rfl, fun _ _ _ _ _ => Nat.le_refl _, fun _ _ => Closed.zero E, Nat.le_refl _, (fun j hj => by cases hj), fun _ => Nat.le_refl _⟩
  · intro d
    constructor
    · intro h; cases h
    · rintro ⟨_, h⟩; exact absurd h (Nat.not_lt_zero _)
end Go.Proofs.YtalaldfgjgpacaaGreatDoor
