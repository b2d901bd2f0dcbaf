import Derived.Test.YtalaldfgjgpacaaGreatDoorHBA
import Derived.Test.YtalaldfgjgpacaaGreatDoorHBD
import Derived.Test.YtalaldfgjgpacaaGreatDoorQB
import Derived.Test.YtalaldfgjgpacaaGreatDoorX14
namespace Go.Proofs.YtalaldfgjgpacaaGreatDoor
set_option linter.unusedVariables false
set_option linter.unusedSimpArgs false
open Go.RowKit

/-- A replica takes a message that is to it. -/
theorem take_rep {n me f c : Nat} {kd : UInt8} {E : Hist} {V : Nat → Vec} {p D : Pc} {x : Ext} {K A U : Vec} (hi : RepInv n E V p x K) (hN : Named E) (hn : n ≤ 3) (hme : me < n) (hf : f < n) (hfm : f ≠ me) (hc : c < 100) (hkd : kd = 73 ∨ kd = 70) (hD : GoodD E A U D) (hA : Vec.le A K) (hb : Bnd n U) (hg : GoodE E U) :
    ∃ V' p' x', RepInv n E V' p' x' (Vec.sup K U) ∧ (Vec.le U K → p' = p ∧ x' = x) ∧ (¬ Vec.le U K → p' = p.join D ∧ x' = x.next D) ∧ ∀ (b : Nat) (w : World), Tab Tryz.prog w → w.heap[b]? = some (.cells (repArr me n p x) 69) →
      Calls Tryz.prog 18 #[.pointer (some ⟨b, 0, none⟩), .string ⟨(headL kd f me c ++ D.text).toArray⟩] w fun e w' => e = .returned (.tuple #[.string ⟨(headL 65 me f c).toArray⟩, .int .i64 0]) ∧ RepTo b me n p' x' w w' := by
  have g1 : GoodD E K (Vec.sup K U) D := hD.at hN hi.closed hA
  have g2 : Bnd n (Vec.sup K U) := hi.bnd.sup hb
  have g3 : GoodE E (Vec.sup K U) := hi.good.sup hg
  have hfit := hi.ok.fits hi.short
  have hf1 := g1.fits g2
  have hn1 := g1.news hi.bnd g2 hn
  rw [← hi.is] at hf1 hn1
  have hce : checkE n p D = 0 := by
    have := checkE_fits n p D
    rw [hf1] at this
    exact of_decide_eq_true this.symm
  have hfm' : forMe me n f me = true := by unfold forMe; simp; exact ⟨hfm, hf⟩
  have d1 := hD.fine hg
  have d2 := hD.inb hb hn
  by_cases hle : Vec.le U K
  · have hs : Vec.sup K U = K := Vec.sup_of_le hle
    have hnw : decide (p.dots < (p.join D).dots) = false := decide_eq_false (fun h => hn1.1 h hs.symm)
    refine ⟨V, p, x, by rw [hs]; exact hi, fun _ => ⟨rfl, rfl⟩, fun h => absurd hle h, fun b w ht hb' => ?_⟩
    refine take_head b me n f me c kd p D x 0 (headL 65 me f c) p x w hkd (by omega) (by omega) hc hn hme hfit.2.2 ht d1 d2 hb' ?_
    rw [hfm', hce, hnw]
    exact ⟨(fun h => by cases h), (fun _ h => by cases h), fun _ _ h => absurd rfl h, fun _ _ _ _ => ⟨rfl, rfl, rfl, rfl⟩, (fun _ _ _ h => by cases h)⟩
  · have hne : K ≠ Vec.sup K U := fun e => hle (by rw [e]; exact Vec.le_sup_r K U)
    have hnw : decide (p.dots < (p.join D).dots) = true := decide_eq_true (hn1.2 hne)
    refine ⟨_, _, _, hi.learn hn g1 g2 g3 hne, fun h => absurd h hle, fun _ => ⟨rfl, rfl⟩, fun b w ht hb' => ?_⟩
    refine take_head b me n f me c kd p D x 0 (headL 65 me f c) _ _ w hkd (by omega) (by omega) hc hn hme hfit.2.2 ht d1 d2 hb' ?_
    rw [hfm', hce, hnw]
    exact ⟨(fun h => by cases h), (fun _ h => by cases h), fun _ _ h => absurd rfl h, (fun _ _ _ h => by cases h), fun _ _ _ _ => ⟨rfl, rfl, rfl, rfl⟩⟩
end Go.Proofs.YtalaldfgjgpacaaGreatDoor

namespace Go.Proofs.YtalaldfgjgpacaaGreatDoor
set_option linter.unusedVariables false
set_option linter.unusedSimpArgs false

/-- The first i events of replica 1, and none of another. -/
def Vr (i : Nat) : Vec := fun w => if w = 1 then i else 0
theorem Vr_up (i : Nat) : (Vr i).up 1 = Vr (i + 1) := by
  funext w
  unfold Vec.up Vr
  by_cases c : w = 1
  · rw [if_pos c, if_pos c, if_pos c]
  · rw [if_neg c, if_neg c, if_neg c]
theorem Vr_le {i j : Nat} (h : i ≤ j) : Vec.le (Vr i) (Vr j) := by
  intro w
  unfold Vr
  by_cases c : w = 1
  · rw [if_pos c, if_pos c]; exact h
  · rw [if_neg c, if_neg c]; exact Nat.le_refl _
/-- What stands beside, behind so many deltas. -/
def replay (Ds : List Pc) : Ext := Ds.foldl Ext.next Ext.zero
theorem replay_snoc (Ds : List Pc) (D : Pc) : replay (Ds ++ [D]) = (replay Ds).next D := by unfold replay; rw [List.foldl_append]; rfl

/-- Replica 1's log is its own events, one by one. -/
def ToldJ (s : CS) : Prop := ∃ (E : Hist) (V : Nat → Nat → Vec) (Ds : List Pc), Core s.n s.p s.x s.K s.evs s.wire s.acks E V ∧ (∀ i D, Ds[i]? = some D → GoodD E (Vr i) (Vr (i + 1)) D) ∧ s.K 1 = Vr Ds.length ∧ (s.x 1).log = (replay Ds).log

theorem ToldJ.start (mode : Int) : ToldJ (CS.start 2 mode) := by
  obtain ⟨E, V, hC⟩ := (Ran.start (n := 2) (by omega) (by omega) mode).inv.core
  refine ⟨E, V, [], hC, (fun i D h => by cases h), ?_, rfl⟩
  funext w
  show 0 = Vr 0 w
  unfold Vr
  split <;> rfl

theorem ToldJ.event {s : CS} (hn : s.n = 2) (h : ToldJ s) {r who : Nat} (hr : r < s.n) (kd c it v : Int) (hk : 3 ≤ kd ∧ kd ≤ 6) (h9 : s.K r r < 9) (hc0 : 0 ≤ c) (hc1 : c < 3) (hi0 : 0 ≤ it) (hi1 : it < 4) (hv0 : -99 ≤ v) (hv1 : v ≤ 99) : ToldJ ((s.ahead r).event r who kd c it v) := by
  obtain ⟨E, V, Ds, hC, h1, h2, h3⟩ := h
  have hi := hC.rep r hr
  have hD : askDelta r (s.p r) kd c it v = evD (s.p r) r (s.K r r) kd c it (evVal kd v) := by
    rw [hi.is]; exact ask_ev hC.n3 hr hi.bnd hi.good h9 kd c it v hk
  have hv : -99 ≤ evVal kd v ∧ evVal kd v ≤ 99 := by unfold evVal; split <;> omega
  have hC' := hC.event hr h9 ⟨r, s.K r r + 1, kd, c, it, evVal kd v, s.K r⟩ rfl rfl rfl ⟨hc0, hc1, hi0, hi1, hv.1, hv.2⟩
  have hC'' : Core s.n (upd s.p r ((s.p r).join (askDelta r (s.p r) kd c it v))) (upd s.x r ((s.x r).next (askDelta r (s.p r) kd c it v))) (upd s.K r ((s.K r).up r)) (s.evs ++ [⟨r, s.K r r + 1, kd, c, it, evVal kd v, s.K r⟩]) s.wire s.acks (E.add r (s.K r r) ⟨r, s.K r r + 1, kd, c, it, evVal kd v, s.K r⟩) (upd V r (upd (V r) ((s.x r).had + 1) ((s.K r).up r))) := by rw [hD]; exact hC'
  by_cases c1 : r = 1
  · subst c1
    have hk1 : s.K 1 1 = Ds.length := by rw [h2]; rfl
    refine ⟨_, _, Ds ++ [askDelta 1 (s.p 1) kd c it v], hC'', ?_, ?_, ?_⟩
    · intro i D hx
      by_cases ci : i < Ds.length
      · rw [List.getElem?_append_left ci] at hx
        refine (h1 i D hx).congr fun w j hj => ?_
        refine add_ne _ _ ?_
        rintro ⟨rfl, rfl⟩
        have : s.K 1 1 < i + 1 := hj
        omega
      · have ci' : i = Ds.length := by
          have := (List.getElem?_eq_some_iff.1 hx).1
          simp at this; omega
        subst ci'
        rw [List.getElem?_append_right (Nat.le_refl _), Nat.sub_self] at hx
        obtain rfl : askDelta 1 (s.p 1) kd c it v = D := Option.some.inj hx
        rw [hD]
        have hg := event_good hC.named hi.closed (show 1 < 3 by omega) ⟨1, s.K 1 1 + 1, kd, c, it, evVal kd v, s.K 1⟩ rfl rfl rfl
        rw [← hi.is] at hg
        have e1 : s.K 1 = Vr Ds.length := h2
        have e2 : (s.K 1).up 1 = Vr (Ds.length + 1) := by rw [h2, Vr_up]
        rw [← e2, ← e1]
        exact hg
    · show upd s.K 1 ((s.K 1).up 1) 1 = Vr (Ds ++ [_]).length
      rw [upd_at, h2, Vr_up]
      simp
    · show (upd s.x 1 ((s.x 1).next _) 1).log = _
      rw [upd_at, replay_snoc]
      show (s.x 1).log ++ frameL ([68] ++ (askDelta 1 (s.p 1) kd c it v).text) = (replay Ds).log ++ frameL ([68] ++ (askDelta 1 (s.p 1) kd c it v).text)
      rw [h3]
  · have hr0 : r = 0 := by omega
    subst hr0
    refine ⟨_, _, Ds, hC'', fun i D hx => (h1 i D hx).congr fun w j hj => ?_, ?_, ?_⟩
    · refine add_ne _ _ ?_
      rintro ⟨rfl, _⟩
      exact absurd hj (Nat.not_lt_zero _)
    · show upd s.K 0 ((s.K 0).up 0) 1 = _
      rw [upd_ne _ _ (by omega)]; exact h2
    · show (upd s.x 0 ((s.x 0).next (askDelta 0 (s.p 0) kd c it v)) 1).log = (replay Ds).log
      rw [upd_ne _ _ (by omega)]; exact h3

theorem ToldJ.step {s : CS} {k : Nat} {o : OpR} (h : Ran s k) (hn : s.n = 2) (hj : ToldJ s) (ho : o.kind ≤ 7) : ToldJ (s.step o) := by
  have hr : (pickN o.r s.n).toNat < s.n := pickN_lt (by omega)
  have hj0 := hj
  obtain ⟨E, V, Ds, hC, h1, h2, h3⟩ := hj
  unfold CS.step
  simp only
  rw [if_neg (by omega)]
  by_cases c : 3 ≤ o.kind ∧ o.kind ≤ 7
  · rw [if_pos c]
    have b1 := pickN_bd o.a 3 (by omega)
    have b2 := pickN_bd o.b 4 (by omega)
    have b3 := pickN_bd o.c 199 (by omega)
    unfold CS.call
    split
    · split
      · exact ⟨E, V, Ds, hC, h1, h2, h3⟩
      · exact ⟨E, V, Ds, hC, h1, h2, h3⟩
    · split
      · rename_i c7 ce
        have h9 : s.K (pickN o.r s.n).toNat (pickN o.r s.n).toNat < 9 := by
          have hi := hC.rep _ hr
          have hcnt : (s.p (pickN o.r s.n).toNat).count ((pickN o.r s.n).toNat : Int) = s.K (pickN o.r s.n).toNat (pickN o.r s.n).toNat := by rw [hi.is]; exact held_count E (by have := hC.n3; omega) (hi.bnd.nine _)
          unfold evErr at ce
          split at ce
          · split at ce
            · exact absurd ce (by decide)
            · rename_i hlt
              have : ¬ 9 ≤ (s.p (pickN o.r s.n).toNat).count ((pickN o.r s.n).toNat : Int) := hlt
              omega
          · rename_i hne
            exact absurd ce hne
        exact ToldJ.event hn hj0 hr _ _ _ _ (by omega) h9 (by omega) (by omega) (by omega) (by omega) (by omega) (by omega)
      · exact ⟨E, V, Ds, hC, h1, h2, h3⟩
  · rw [if_neg c, if_neg (by omega), if_neg (by omega), if_neg (by omega), if_neg (by omega)]
    exact ⟨E, V, Ds, hC, h1, h2, h3⟩
end Go.Proofs.YtalaldfgjgpacaaGreatDoor

namespace Go.Proofs.YtalaldfgjgpacaaGreatDoor
set_option linter.unusedVariables false
set_option linter.unusedSimpArgs false
open Go.RowKit

/-- The frames of the deltas from number i on. -/
def frames (Ds : List Pc) : Bs := Ds.flatMap fun D => frameL ([68] ++ D.text)
theorem replay_log : ∀ (Ds : List Pc) (x : Ext), (Ds.foldl Ext.next x).log = x.log ++ frames Ds
  | [], x => by simp [frames]
  | D :: Ds, x => by
    rw [List.foldl_cons, replay_log Ds (x.next D)]
    show (x.log ++ frameL ([68] ++ D.text)) ++ frames Ds = x.log ++ frames (D :: Ds)
    unfold frames
    rw [List.flatMap_cons, List.append_assoc]
theorem replay_frames (Ds : List Pc) : (replay Ds).log = frames Ds := by
  unfold replay
  rw [replay_log]; rfl
theorem frames_cons {Ds : List Pc} {i : Nat} {D : Pc} (h : Ds[i]? = some D) : frames (Ds.drop i) = frameL ([68] ++ D.text) ++ frames (Ds.drop (i + 1)) := by
  have hi := (List.getElem?_eq_some_iff.1 h)
  obtain ⟨hl, he⟩ := hi
  rw [List.drop_eq_getElem_cons hl, he]
  unfold frames
  rw [List.flatMap_cons]
theorem frames_end (Ds : List Pc) : frames (Ds.drop Ds.length) = [] := by rw [List.drop_length]; rfl

theorem Vr_bnd {i : Nat} (h : i ≤ 9) : Bnd 2 (Vr i) := by
  refine ⟨fun w hw => ?_, fun w => ?_⟩
  · unfold Vr; rw [if_neg (by omega)]
  · unfold Vr; split <;> omega
theorem Vr_sup (i j : Nat) : Vec.sup (Vr i) (Vr j) = Vr (max i j) := by
  funext w
  show max (Vr i w) (Vr j w) = Vr (max i j) w
  unfold Vr
  by_cases c : w = 1
  · rw [if_pos c, if_pos c, if_pos c]
  · rw [if_neg c, if_neg c, if_neg c]; rfl

/-- The one that is told. -/
structure Hears (E : Hist) (Ds : List Pc) (q : Nat) (p : Pc) (x : Ext) : Prop where
  inv : ∃ V, RepInv 2 E V p x (Vr q)
  log : x.log = (replay (Ds.take q)).log

theorem Hears.start (E : Hist) (hN : Named E) (Ds : List Pc) : Hears E Ds 0 Pc.empty Ext.zero := by
  have h := (Core.start 2 E hN (by omega) (by omega)).rep 0 (by omega)
  have e : Vr 0 = Vec.zero := by funext w; unfold Vr; split <;> rfl
  exact ⟨⟨_, by rw [e]; exact h⟩, by rw [List.take_zero]; rfl⟩

/-- It takes one frame's delta. -/
theorem Hears.hear {E : Hist} {Ds : List Pc} {q i : Nat} {p D : Pc} {x : Ext} (h : Hears E Ds q p x) (hN : Named E) (hk : Ds.length ≤ 9) (hg : GoodE E (Vr Ds.length)) (hD : ∀ i D, Ds[i]? = some D → GoodD E (Vr i) (Vr (i + 1)) D) (hi : Ds[i]? = some D) (hq : q = i ∨ i < q) (hqk : q ≤ Ds.length) :
    ∃ p' x', Hears E Ds (max q (i + 1)) p' x' ∧ ∀ (b : Nat) (w : World), Tab Tryz.prog w → w.heap[b]? = some (.cells (repArr 0 2 p x) 69) →
      Calls Tryz.prog 18 #[.pointer (some ⟨b, 0, none⟩), .string ⟨(headL 73 1 0 7 ++ D.text).toArray⟩] w fun e w' => e = .returned (.tuple #[.string ⟨(headL 65 0 1 7).toArray⟩, .int .i64 0]) ∧ RepTo b 0 2 p' x' w w' := by
  obtain ⟨V, hV⟩ := h.inv
  have hil := (List.getElem?_eq_some_iff.1 hi).1
  have hgd := hD i D hi
  obtain ⟨V', p', x', i1, e1, e2, t1⟩ := take_rep (me := 0) (f := 1) (c := 7) (kd := 73) hV hN (by omega) (by omega) (by omega) (by omega) (by omega) (.inl rfl) hgd (Vr_le (by omega)) (Vr_bnd (by omega)) (hg.le (Vr_le (by omega)))
  rw [Vr_sup] at i1
  refine ⟨p', x', ⟨⟨V', i1⟩, ?_⟩, t1⟩
  rcases hq with c | c
  · subst c
    have hnl : ¬ Vec.le (Vr (q + 1)) (Vr q) := by
      intro hle
      have := hle 1
      unfold Vr at this
      simp at this
      omega
    obtain ⟨_, rfl⟩ := e2 hnl
    rw [show max q (q + 1) = q + 1 by omega]
    have ht : Ds.take (q + 1) = Ds.take q ++ [D] := by
      rw [List.take_add_one, hi]; rfl
    rw [ht, replay_snoc]
    show x.log ++ frameL ([68] ++ D.text) = (replay (Ds.take q)).log ++ frameL ([68] ++ D.text)
    rw [h.log]
  · have hle : Vec.le (Vr (i + 1)) (Vr q) := Vr_le (by omega)
    obtain ⟨_, rfl⟩ := e1 hle
    rw [show max q (i + 1) = q by omega]
    exact h.log
end Go.Proofs.YtalaldfgjgpacaaGreatDoor
