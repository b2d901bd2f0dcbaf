import Derived.Test.YtalaldfgjgpacaaGreatDoorHAU
import Derived.Test.YtalaldfgjgpacaaGreatDoorHAW
import Derived.Deep.RegionHeld3
import Derived.BigRegion
namespace Go.Proofs.YtalaldfgjgpacaaGreatDoor
set_option linter.unusedVariables false
set_option linter.unusedSimpArgs false

/-- A replica's counts are what it knows. -/
theorem Inv.count {s : CS} (h : Inv s) {r : Nat} (hr : r < s.n) {i : Nat} (hi : i < s.n) : (s.p r).count (i : Int) = s.K r i := by
  obtain ⟨E, V, hC⟩ := h.core
  have hi' := hC.rep r hr
  have := hC.n3
  rw [hi'.is]
  exact held_count E (by omega) (hi'.bnd.nine i)
theorem Inv.nine {s : CS} (h : Inv s) {r : Nat} (hr : r < s.n) (i : Nat) : s.K r i ≤ 9 := by
  obtain ⟨E, V, hC⟩ := h.core
  exact (hC.rep r hr).bnd.nine i
theorem Inv.pok {s : CS} (h : Inv s) {r : Nat} (hr : r < s.n) : (s.p r).ok := by
  obtain ⟨E, V, hC⟩ := h.core
  exact (hC.rep r hr).ok.fine.ok
/-- Who knows the same holds the same. -/
theorem Inv.same {s : CS} (h : Inv s) {r q : Nat} (hr : r < s.n) (hq : q < s.n) (hk : ∀ i, i < s.n → s.K r i = s.K q i) : s.p r = s.p q := by
  obtain ⟨E, V, hC⟩ := h.core
  have h1 := hC.rep r hr
  have h2 := hC.rep q hq
  have e : s.K r = s.K q := by
    funext i
    by_cases c : i < s.n
    · exact hk i c
    · rw [h1.bnd.out i (by omega), h2.bnd.out i (by omega)]
  rw [h1.is, h2.is, e]

theorem stL_get (p : Pc) {n i : Nat} (hi : i < n) : (stL p n).getD i 0 = dig (p.count (i : Int)) := by
  unfold stL
  rw [List.append_assoc, List.getD_eq_getElem?_getD, List.getElem?_append_left (by rw [digsTo_len]; exact hi), ← List.getD_eq_getElem?_getD]
  exact digsTo_get p n i hi
theorem stL_semi (p : Pc) (n : Nat) : (stL p n).getD n 0 = 59 := by
  unfold stL
  rw [List.append_assoc, List.getD_eq_getElem?_getD, List.getElem?_append_right (by rw [digsTo_len]; exact Nat.le_refl _), digsTo_len, Nat.sub_self]
  rfl
theorem stL_len (p : Pc) (n : Nat) : n < (stL p n).length := by
  unfold stL
  rw [List.append_assoc, List.length_append, digsTo_len]
  simp

theorem stale_no {p : Pc} {l : List UInt8} : ∀ {k : Nat}, staleTo p l k = false → ∀ i, i < k → (l.getD i 0).toNat - 48 ≤ p.count (i : Int)
  | 0, _, i, hi => absurd hi (Nat.not_lt_zero _)
  | k + 1, h, i, hi => by
    rw [staleTo, Bool.or_eq_false_iff] at h
    by_cases c : i = k
    · subst c
      exact Nat.not_lt.1 (of_decide_eq_false h.2)
    · exact stale_no h.1 i (by omega)
theorem stale_yes {p : Pc} {l : List UInt8} : ∀ {k : Nat}, (∀ i, i < k → (l.getD i 0).toNat - 48 ≤ p.count (i : Int)) → staleTo p l k = false
  | 0, _ => rfl
  | k + 1, h => by
    rw [staleTo, stale_yes (fun i hi => h i (by omega)), Bool.false_or]
    have := h k (by omega)
    exact decide_eq_false (Nat.not_lt.2 this)
theorem tok_len {n : Nat} {l : List UInt8} (h : isTok n l = true) : l.length = n := by
  simp only [isTok, Bool.and_eq_true, beq_iff_eq] at h; exact h.1
theorem tok_dig {n : Nat} {l : List UInt8} (h : isTok n l = true) {i : Nat} (hi : i < n) : 48 ≤ (l.getD i 0).toNat ∧ (l.getD i 0).toNat ≤ 57 := by
  have hl := tok_len h
  simp only [isTok, Bool.and_eq_true, beq_iff_eq, List.all_eq_true] at h
  have hm : l.getD i 0 ∈ l := by
    rw [List.getD_eq_getElem?_getD, List.getElem?_eq_getElem (by omega)]
    exact List.getElem_mem _
  have := h.2 _ hm
  unfold isDigB at this
  simp only [Bool.and_eq_true, decide_eq_true_eq] at this
  exact ⟨UInt8.le_iff_toNat_le.1 this.1, UInt8.le_iff_toNat_le.1 this.2⟩
theorem tokErr_zero {n : Nat} {p : Pc} {l : List UInt8} (h : tokErr n p l = 0) : ∀ i, i < n → (l.getD i 0).toNat - 48 ≤ p.count (i : Int) := by
  unfold tokErr at h
  split at h
  · rename_i ht
    split at h
    · exact absurd h (by decide)
    · rename_i hs
      have := stale_no (p := p) (l := l) (k := l.length) (by simpa using hs)
      rw [tok_len ht] at this; exact this
  · exact absurd h (by decide)
theorem tokErr_of {n : Nat} {p : Pc} {l : List UInt8} (ht : isTok n l = true) (h : ∀ i, i < n → (l.getD i 0).toNat - 48 ≤ p.count (i : Int)) : tokErr n p l = 0 := by
  unfold tokErr
  rw [if_pos ht, stale_yes (by rw [tok_len ht]; exact h)]
  rfl

/-- What a client is answered tells all that it had seen. -/
theorem Inv.chain {s : CS} (h : Inv s) (hm : s.mode = 2) (o : OpR) (hk : 3 ≤ o.kind ∧ o.kind ≤ 7) : ∀ i, i < s.n → ((s.toks (pickN o.t 3).toNat).getD i 0).toNat ≤ (((s.step o).toks (pickN o.t 3).toNat).getD i 0).toNat := by
  obtain ⟨h1, h3⟩ := h.n1
  have hr : (pickN o.r s.n).toNat < s.n := pickN_lt h1
  have b1 := pickN_bd o.a 3 (by omega)
  have b2 := pickN_bd o.b 4 (by omega)
  have b3 := pickN_bd o.c 199 (by omega)
  have b4 := pickN_bd o.t 3 (by omega)
  intro i hi
  unfold CS.step
  simp only
  rw [if_neg (by omega), if_pos hk]
  generalize hrr : (pickN o.r s.n).toNat = r at *
  generalize hww : (pickN o.t 3).toNat = who at *
  have hwho : who < 3 := by omega
  have htd := tok_dig (h.toks who hwho) hi
  unfold CS.call
  have et : (s.ahead r).token r who = s.toks who := by
    unfold CS.token
    rw [if_pos (show (s.ahead r).mode = 2 from hm)]; rfl
  rw [et]
  show ((s.toks who).getD i 0).toNat ≤ _
  have fin : ∀ (s' : CS), s'.n = s.n → Inv s' → s'.toks who = (s'.p r).digsTo s.n → s.K r i ≤ s'.K r i → tokErr s.n (s.p r) (s.toks who) = 0 → ((s.toks who).getD i 0).toNat ≤ ((s'.toks who).getD i 0).toNat := by
    intro s' hn' hI' ht' hkk h0
    have hz := tokErr_zero h0 i hi
    rw [h.count hr hi] at hz
    rw [ht', digsTo_get _ _ _ hi, hI'.count (by omega) (by omega), dig_toNat _ (by have := hI'.nine (r := r) (by omega) i; omega)]
    omega
  split
  · split
    · rename_i h0
      refine fin _ rfl (h.read hr hwho _) ?_ (Nat.le_refl _) h0
      show upd s.toks who _ who = _
      rw [upd_at]; rfl
    · exact Nat.le_refl _
  · rename_i h7
    split
    · rename_i h0
      have hz : tokErr s.n (s.p r) (s.toks who) = 0 := by
        have : evErr r s.n (s.p r) (s.toks who) = 0 := h0
        unfold evErr at this
        split at this
        · assumption
        · exact this
      have h9 : s.K r r < 9 := by
        have : evErr r s.n (s.p r) (s.toks who) = 0 := h0
        unfold evErr at this
        rw [if_pos hz] at this
        split at this
        · exact absurd this (by decide)
        · rename_i c
          rw [h.count hr hr] at c; omega
      refine fin _ rfl (h.event hr hwho _ _ _ _ (by omega) h9 (by omega) (by omega) (by omega) (by omega) (by omega) (by omega)) ?_ ?_ hz
      · show upd s.toks who _ who = (upd s.p r _ r).digsTo s.n
        rw [upd_at, upd_at]; rfl
      · show s.K r i ≤ upd s.K r _ r i
        rw [upd_at]
        exact Vec.le_up _ _ i
    · exact Nat.le_refl _

/-- With noughts, and with what each replica answered last, a cluster goes the same way. -/
theorem Inv.blind {s : CS} (h : Inv s) (hm : s.mode = 0) (o : OpR) : ({ s with mode := 1 } : CS).step o = { s.step o with mode := 1 } := by
  obtain ⟨h1, h3⟩ := h.n1
  have hr : (pickN o.r s.n).toNat < s.n := pickN_lt h1
  unfold CS.step
  simp only
  generalize hrr : (pickN o.r s.n).toNat = r at *
  generalize hww : (pickN o.t 3).toNat = who at *
  by_cases c10 : o.kind = 10
  · rw [if_pos c10, if_pos c10]
    unfold CS.crash
    have ec : ({ s with mode := 1 } : CS).cut r o.b = s.cut r o.b := rfl
    rw [ec]
    by_cases cc : s.cut r o.b = 0
    · rw [if_pos cc, if_pos cc]; rfl
    · rw [if_neg cc, if_neg cc]; rfl
  rw [if_neg c10, if_neg c10]
  by_cases cc : 3 ≤ o.kind ∧ o.kind ≤ 7
  · rw [if_pos cc, if_pos cc]
    unfold CS.call
    have e0 : (s.ahead r).token r who = noughtsL s.n := by
      unfold CS.token
      rw [if_neg (show ¬ (s.ahead r).mode = 2 by show ¬ s.mode = 2; omega), if_neg (show ¬ (s.ahead r).mode = 1 by show ¬ s.mode = 1; omega)]; rfl
    have e1 : (({ s with mode := 1 } : CS).ahead r).token r who = s.owns r := by
      unfold CS.token
      rw [if_neg (show ¬ (({ s with mode := 1 } : CS).ahead r).mode = 2 by show ¬ (1 : Int) = 2; omega), if_pos (show (({ s with mode := 1 } : CS).ahead r).mode = 1 from rfl)]; rfl
    rw [e0, e1]
    have t0 : tokErr s.n (s.p r) (noughtsL s.n) = 0 := (tok_noughts s.n (s.p r)).2
    have t1 : tokErr s.n (s.p r) (s.owns r) = 0 := tokErr_of (h.owns r hr).1 (fun i hi => by rw [h.count hr hi]; exact (h.owns r hr).2 i hi)
    have v : evErr r s.n (s.p r) (noughtsL s.n) = evErr r s.n (s.p r) (s.owns r) := by
      unfold evErr
      rw [if_pos t0, if_pos t1]
    by_cases c7 : o.kind = 7
    · rw [if_pos c7, if_pos c7]
      rw [if_pos (show tokErr (({ s with mode := 1 } : CS).ahead r).n ((({ s with mode := 1 } : CS).ahead r).p r) (s.owns r) = 0 from t1), if_pos (show tokErr (s.ahead r).n ((s.ahead r).p r) (noughtsL s.n) = 0 from t0)]
      rfl
    · rw [if_neg c7, if_neg c7]
      have v' : evErr r (s.ahead r).n ((s.ahead r).p r) (noughtsL s.n) = evErr r (({ s with mode := 1 } : CS).ahead r).n ((({ s with mode := 1 } : CS).ahead r).p r) (s.owns r) := v
      rw [← v']
      by_cases ce : evErr r (s.ahead r).n ((s.ahead r).p r) (noughtsL s.n) = 0
      · rw [if_pos ce, if_pos ce]; rfl
      · rw [if_neg ce, if_neg ce]; rfl
  rw [if_neg cc, if_neg cc]
  by_cases c9 : o.kind = 9
  · rw [if_pos c9, if_pos c9]; rfl
  rw [if_neg c9, if_neg c9]
  by_cases c12 : o.kind = 12
  · rw [if_pos c12, if_pos c12]
    generalize (pickN o.a s.n).toNat = q
    unfold CS.ship
    by_cases d1 : q = r
    · rw [if_pos d1, if_pos d1]; rfl
    · rw [if_neg d1, if_neg d1]
      by_cases d2 : ((s.ahead r).x r).had = ((s.ahead r).x r).ack q
      · rw [if_pos d2, if_pos (show ((({ s with mode := 1 } : CS).ahead r).x r).had = ((({ s with mode := 1 } : CS).ahead r).x r).ack q from d2)]; rfl
      · rw [if_neg d2, if_neg (show ¬ ((({ s with mode := 1 } : CS).ahead r).x r).had = ((({ s with mode := 1 } : CS).ahead r).x r).ack q from d2)]; rfl
  rw [if_neg c12, if_neg c12]
  by_cases c11 : o.kind = 11
  · rw [if_pos c11, if_pos c11]
    by_cases hw : s.wire = []
    · rw [if_pos hw, if_pos hw]; rfl
    · rw [if_neg hw, if_neg hw]
      generalize nthM s.wire o.a = m
      generalize (if o.r < 0 then m.dst else r) = q
      unfold CS.take
      by_cases d1 : m.dst = q
      · rw [if_pos d1, if_pos d1]
        by_cases d2 : (s.p q).dots < ((s.p q).join (msgP m.text)).dots
        · rw [if_pos (show ((((s.ahead r).ahead q).p q).dots < ((((s.ahead r).ahead q).p q).join (msgP m.text)).dots) from d2), if_pos (show ((((({ s with mode := 1 } : CS).ahead r).ahead q).p q).dots < (((({ s with mode := 1 } : CS).ahead r).ahead q).p q |>.join (msgP m.text)).dots) from d2)]; rfl
        · rw [if_neg (show ¬ ((((s.ahead r).ahead q).p q).dots < ((((s.ahead r).ahead q).p q).join (msgP m.text)).dots) from d2), if_neg (show ¬ ((((({ s with mode := 1 } : CS).ahead r).ahead q).p q).dots < (((({ s with mode := 1 } : CS).ahead r).ahead q).p q |>.join (msgP m.text)).dots) from d2)]; rfl
      · rw [if_neg d1, if_neg d1]; rfl
  rw [if_neg c11, if_neg c11]
  by_cases c13 : o.kind = 13
  · rw [if_pos c13, if_pos c13]
    by_cases hw : s.acks = []
    · rw [if_pos hw, if_pos hw]; rfl
    · rw [if_neg hw, if_neg hw]
      generalize nthM s.acks o.a = m
      generalize (if o.r < 0 then m.dst else r) = q
      unfold CS.acked
      by_cases d1 : m.dst = q
      · rw [if_pos d1, if_pos d1]
        by_cases d2 : (s.x q).ack m.frm < ansN m.text
        · rw [if_pos (show (((s.ahead r).ahead q).x q).ack m.frm < ansN m.text from d2), if_pos (show ((((({ s with mode := 1 } : CS).ahead r).ahead q).x q).ack m.frm < ansN m.text) from d2)]; rfl
        · rw [if_neg (show ¬ (((s.ahead r).ahead q).x q).ack m.frm < ansN m.text from d2), if_neg (show ¬ ((((({ s with mode := 1 } : CS).ahead r).ahead q).x q).ack m.frm < ansN m.text) from d2)]; rfl
      · rw [if_neg d1, if_neg d1]; rfl
  rw [if_neg c13, if_neg c13]; rfl
end Go.Proofs.YtalaldfgjgpacaaGreatDoor

namespace Go.Proofs.YtalaldfgjgpacaaGreatDoor
set_option linter.unusedVariables false
set_option linter.unusedSimpArgs false
open Go.RowKit
attribute [local go_sem ↓] Go.wp_at_zero Go.wp_at_succ

/-- What is looked at of a replica of a cluster. -/
structure LookR (w : World) (cb xb kb cx ck b g n r : Nat) (p : Pc) (x : Ext) (K : Vec) : Prop where
  c0 : w.cell? ⟨cb, 0, none⟩ = some (.int .i64 n)
  c2 : w.cell? ⟨cb, 2, none⟩ = some (.slice (some ⟨xb, 0, none⟩) n cx)
  c3 : w.cell? ⟨cb, 3, none⟩ = some (.slice (some ⟨kb, 0, none⟩) n ck)
  xr : w.cell? ⟨xb, r, none⟩ = some (.pointer (some ⟨b, 0, none⟩))
  kr : w.cell? ⟨kb, r, none⟩ = some (.slice (some ⟨g, 0, none⟩) n n)
  gv : w.heap[g]? = some (.cells (intsV (vecL n K)) 3)
  rep : w.heap[b]? = some (.cells (repArr r n p x) 69)
theorem cell_blw {w w' : World} (hb : Blw w w') {b o : Nat} {v : Value} (h : w.cell? ⟨b, o, none⟩ = some v) : w'.cell? ⟨b, o, none⟩ = some v :=
  ((bcell hb).1 b o (World.block_lt_of_cell? w ⟨b, o, none⟩ h)).trans h
theorem LookR.blw {w w' : World} {cb xb kb cx ck b g n r : Nat} {p : Pc} {x : Ext} {K : Vec} (h : LookR w cb xb kb cx ck b g n r p x K) (hb : Blw w w') : LookR w' cb xb kb cx ck b g n r p x K :=
  ⟨cell_blw hb h.c0, cell_blw hb h.c2, cell_blw hb h.c3, cell_blw hb h.xr, cell_blw hb h.kr, hb.bk' h.gv, hb.bk' h.rep⟩
theorem ClAt.look {w : World} {m : CM} {s : CS} (h : ClAt w m s) {r : Nat} (hr : r < s.n) : LookR w m.cb m.xb m.kb m.cx m.ck (m.b r) (m.g r) s.n r (s.p r) (s.x r) (s.K r) :=
  ⟨by rw [h.cell]; rfl, by rw [h.cell]; rfl, by rw [h.cell]; rfl, h.x0 hr, h.k0 hr, h.ks.kc r hr, h.xs.rep r hr⟩
theorem LookR.gc {w : World} {cb xb kb cx ck b g n r : Nat} {p : Pc} {x : Ext} {K : Vec} (h : LookR w cb xb kb cx ck b g n r p x K) {i : Nat} (hi : i < n) : w.cell? ⟨g, i, none⟩ = some (.int .i64 (K i)) := by rw [blk_cell h.gv]; exact vecL_at _ hi

set_option maxRecDepth 100000 in
set_option maxHeartbeats 2000000 in
/-- A replica knows what it was told. -/
theorem sees_at {w : World} {cb xb kb cx ck b g n r : Nat} {p : Pc} {x : Ext} {K : Vec} (h : LookR w cb xb kb cx ck b g n r p x K) (hn : n ≤ 3) (hr : r < n) (hp : p.ok) (h9 : ∀ i, K i ≤ 9) (hc : ∀ i, i < n → p.count (i : Int) = K i) :
    Calls Tryz.prog 27 #[.pointer (some ⟨cb, 0, none⟩), .int .i64 r] w fun e w' => e = .returned (.bool true) ∧ Blw w w' := by
  have HS := hid (state_any b r n p w hn hp h.rep)
  obtain ⟨y, hy⟩ : ∃ y : ByteArray, y = ⟨(stL p n).toArray⟩ := ⟨_, rfl⟩
  have hsz : y.size = (stL p n).length := by rw [hy]; simp [ByteArray.size]
  have hlt : n < y.size := by rw [hsz]; exact stL_len p n
  have hget : ∀ i (hi : i < y.size), y[i] = (stL p n).getD i 0 := by
    intro i hi
    subst hy
    rw [List.getD_eq_getElem?_getD, List.getElem?_eq_getElem (by rw [← hsz]; exact hi)]
    simp [ByteArray.getElem_eq_getElem_data]
  have hsem : y[n] = 59 := by rw [hget n hlt]; exact stL_semi p n
  have hdig : ∀ i (hi : i < n), (y[i]'(Nat.lt_trans hi hlt)).toNat = K i + 48 := by
    intro i hi
    rw [hget i (by omega), stL_get p hi, hc i hi, dig_toNat _ (by have := h9 i; omega)]
    omega
  rw [show (p.digsTo n ++ [59] ++ p.entTo 12) = stL p n from rfl, ← hy] at HS
  have HG := hid hdig
  have H := hid h
  have u2 := h.c2
  have ux := h.xr
  have hr0 : (0 : Int) ≤ (r : Int) := Int.natCast_nonneg _
  have hr1 : (r : Int) < (n : Int) := by omega
  have hltI : decide ((y.size : Int) ≤ (n : Int)) = false := by simp; omega
  clear hy hsz hget hdig h
  go_enter Tryz.func27, Tryz.ntmps27
  go_wp2_with fail
  refine HS.out.mono ?_
  rintro e w1 ⟨rfl, b1⟩
  have L1 := hid (H.out.blw b1)
  have v0 := L1.out.c0
  have B1 := hid b1
  clear b1 u2 ux
  go_wp2
  go_loopw [7] (fun i wr => ∃ k : Nat, k ≤ n ∧ i = .int .i64 k ∧ Blw w wr) (fun i _ => n - (intOf i).toNat)
  case atStart => exact ⟨0, by omega, rfl, B1.out⟩
  case round =>
    obtain ⟨k, hk, rfl, hb⟩ := hrel
    have L2 := H.out.blw hb
    have v0' := L2.c0
    have v3 := L2.c3
    have vk := L2.kr
    have HB := hid hb
    by_cases hlt2 : k < n
    · have vg := L2.gc hlt2
      have g9 := h9 k
      have hd := HG.out k hlt2
      have hki : k < y.size := Nat.lt_trans hlt2 hlt
      have hdI : ((y[k]'hki).toNat : Int) = (K k : Int) + 48 := by omega
      generalize K k = d at *
      clear L2 hb hd
      go_wp2
      go_region
      go_wp2
      go_roundw
      case rel => exact ⟨k + 1, by omega, by go_num, HB.out.dr⟩
      case measure => simp [intOf]; omega
    · have hkn : k = n := by omega
      subst hkn
      go_wp2
      go_ret
      exact ⟨rfl, HB.out⟩
end Go.Proofs.YtalaldfgjgpacaaGreatDoor
