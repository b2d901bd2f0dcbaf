import Derived.Test.YtalaldfgjgpacaaGreatDoorHAI
import Derived.Test.YtalaldfgjgpacaaGreatDoorHAJ
import Derived.Test.YtalaldfgjgpacaaGreatDoorHAM
import Derived.Laws.CopyOwn
namespace Go.Proofs.YtalaldfgjgpacaaGreatDoor
set_option linter.unusedVariables false
set_option linter.unusedSimpArgs false

/-- Nothing beyond the slots there are. -/
def Pc.inb (p : Pc) : Prop := ∀ r i, ¬ (r < 3 ∧ i < 9) → p r i = Sl.zero
theorem inb_empty : Pc.empty.inb := fun _ _ _ => rfl
theorem inb_put {p : Pc} (h : p.inb) {k m : Nat} (hk : k < 3) (hm : m < 9) (s : Sl) : (p.put k m s).inb := by
  intro r i hri
  unfold Pc.put
  split
  · rename_i e; exact absurd ⟨by omega, by omega⟩ hri
  · exact h r i hri
theorem inb_join {p q : Pc} (h : p.inb) (k : q.inb) : (p.join q).inb := by
  intro r i hri
  simp only [Pc.join, h r i hri, k r i hri]; rfl
theorem inb_withDot {p : Pc} (h : p.inb) (r n : Nat) : (p.withDot r n).inb := by
  unfold Pc.withDot
  split
  · rename_i e
    simp only [dotOk, Bool.and_eq_true, decide_eq_true_eq] at e
    exact inb_put h (by omega) (by omega) _
  · exact h
theorem inb_withEnt {p : Pc} (h : p.inb) (r n : Nat) (c it v : Int) : (p.withEnt r n c it v).inb := by
  unfold Pc.withEnt
  split
  · rename_i e
    simp only [dotOk, Bool.and_eq_true, decide_eq_true_eq] at e
    exact inb_put h (by omega) (by omega) _
  · exact h
theorem inb_dotText {p : Pc} (h : p.inb) (t : Bs) : (p.dotText t).inb := by
  unfold Pc.dotText
  split
  · exact inb_withDot h _ _
  · exact h
theorem inb_entText {p : Pc} (h : p.inb) (t : Bs) : (p.entText t).inb := by
  unfold Pc.entText
  cases (okD ((t.drop 2).take 2) && okD ((t.drop 5).take 2))
  · exact h
  · exact inb_withEnt h _ _ _ _ _
theorem inb_gather (l : Bs) : (gatherL l).inb := by
  have hd : ∀ k, (gDots l k).inb := by
    intro k
    induction k with
    | zero => exact inb_empty
    | succ k ih => exact inb_dotText ih _
  have he : ∀ k, (gEnts (gDots l (endTo l / 2)) l (endTo l) k).inb := by
    intro k
    induction k with
    | zero => exact hd _
    | succ k ih => exact inb_entText ih _
  exact he _
theorem inb_readP (l : Bs) : (readP l).inb := by
  unfold readP
  split
  · exact inb_gather l
  · exact inb_empty

/-- A piece is told by its lists. -/
theorem rel_inj {p q : Pc} {D E : List Bs} (h : RelP p D E) (k : RelP q D E) (hp : p.fine) (hq : q.fine) (ip : p.inb) (iq : q.inb) : p = q := by
  funext r i
  by_cases hri : r < 3 ∧ i < 9
  · obtain ⟨hr, hi⟩ := hri
    have ek : (p r i).known = (q r i).known := by rw [← h.hasD hr hi, ← k.hasD hr hi]
    have half : ∀ (a b : Pc), RelP a D E → RelP b D E → a.fine → b.fine → (a r i).filled = true → (b r i).filled = true ∧ (a r i).cart = (b r i).cart ∧ (a r i).item = (b r i).item ∧ (a r i).value = (b r i).value := by
      intro a b ha hb fa fb hf
      have hm := (ha.me _).2 ⟨r, i, hr, hi, hf, rfl⟩
      obtain ⟨r', i', hr', hi', hf', e⟩ := (hb.me _).1 hm
      obtain ⟨rfl, rfl, e1, e2, e3⟩ := text_inj e (fa.ok.good hr hi hf) (fb.ok.good hr' hi' hf') hr hi hr' hi'
      exact ⟨hf', e1, e2, e3⟩
    cases hf : (p r i).filled
    · have hf' : (q r i).filled = false := by
        cases hq' : (q r i).filled
        · rfl
        · have := (half q p k h hq hp hq').1
          rw [hf] at this; cases this
      obtain ⟨a1, a2, a3⟩ := hp.canon r i hr hi hf
      obtain ⟨b1, b2, b3⟩ := hq.canon r i hr hi hf'
      exact Sl.ext' ek (by rw [hf, hf']) (by rw [a1, b1]) (by rw [a2, b2]) (by rw [a3, b3])
    · obtain ⟨h1, h2, h3, h4⟩ := half p q h k hp hq hf
      exact Sl.ext' ek (by rw [hf, h1]) h2 h3 h4
  · rw [ip r i hri, iq r i hri]

/-- What was written is read again. -/
theorem read_text {q : Pc} (hq : q.fine) (iq : q.inb) : readOk q.text = true ∧ readP q.text = q := by
  have hr := rel_lists q hq.ok
  have g := rel_good hr hq.ok
  have ho := good_read g
  obtain ⟨r1, r2, _⟩ := good_readP g
  exact ⟨ho, rel_inj r1 hr r2 hq (inb_readP _) iq⟩

/-- How far a log can be read. -/
def Rch (n : Nat) (log : Bs) (a : Nat) (h : Pc) (x : Ext) : Prop :=
  ∀ P : Nat → Pc → Ext → Prop, P 0 Pc.empty Ext.zero →
    (∀ a h x, P a h x → logSt n log a h = 2 → P (a + 3 + frLen log a) (stepTo n (a == 0) h (frBody log a)) (stepX n (a == 0) h x (frBody log a))) → P a h x
theorem Rch.zero {n : Nat} {log : Bs} : Rch n log 0 Pc.empty Ext.zero := fun _ h _ => h
theorem Rch.step {n : Nat} {log : Bs} {a : Nat} {h : Pc} {x : Ext} (r : Rch n log a h x) (hs : logSt n log a h = 2) :
    Rch n log (a + 3 + frLen log a) (stepTo n (a == 0) h (frBody log a)) (stepX n (a == 0) h x (frBody log a)) :=
  fun P h0 h1 => h1 _ _ _ (r P h0 h1) hs

theorem Rch.le {n : Nat} {log : Bs} {a : Nat} {h : Pc} {x : Ext} (r : Rch n log a h x) : a ≤ log.length :=
  r (fun a _ _ => a ≤ log.length) (Nat.zero_le _) fun _ _ _ _ hs => (logSt_two (by rw [hs]; decide) (by rw [hs]; decide)).1

theorem run_steps {n : Nat} {log : Bs} {a : Nat} {h : Pc} {x : Ext} (r : Rch n log a h x) : ∃ k, k ≤ a ∧ ∀ f, logRun n log (k + f) 0 Pc.empty Ext.zero = logRun n log f a h x := by
  refine r (fun a h x => ∃ k, k ≤ a ∧ ∀ f, logRun n log (k + f) 0 Pc.empty Ext.zero = logRun n log f a h x) ?_ ?_
  · exact ⟨0, Nat.le_refl _, fun f => by rw [Nat.zero_add]⟩
  · rintro a h x ⟨k, hk, e⟩ hs
    refine ⟨k + 1, by omega, fun f => ?_⟩
    rw [show k + 1 + f = k + (f + 1) by omega, e (f + 1), logRun, if_neg (by rw [hs]; decide), if_neg (by rw [hs]; decide)]

theorem run_end {n : Nat} {log : Bs} {a : Nat} {h : Pc} {x : Ext} (r : Rch n log a h x) (hs : logSt n log a h = 0) : logRun n log (log.length + 1) 0 Pc.empty Ext.zero = ⟨true, a, h, x⟩ := by
  obtain ⟨k, hk, e⟩ := run_steps r
  have hle := r.le
  have := e (log.length - k + 1)
  rw [show k + (log.length - k + 1) = log.length + 1 by omega] at this
  rw [this, logRun, if_pos hs]

theorem fr_app (log s : Bs) (a : Nat) (h : a + 3 ≤ log.length) : ((log ++ s).drop a).take 3 = (log.drop a).take 3 := by
  rw [List.drop_append_of_le_length (by omega), List.take_append_of_le_length (by simp; omega)]
theorem st_app {n : Nat} {log : Bs} (s : Bs) {a : Nat} {h : Pc} (hs : logSt n log a h = 2) : logSt n (log ++ s) a h = 2 ∧ frLen (log ++ s) a = frLen log a ∧ frBody (log ++ s) a = frBody log a := by
  obtain ⟨h1, h2, h3⟩ := logSt_two (by rw [hs]; decide) (by rw [hs]; decide)
  have e1 := fr_app log s a (by omega)
  have e2 : frLen (log ++ s) a = frLen log a := by unfold frLen; rw [e1]
  have e3 : frBody (log ++ s) a = frBody log a := by
    unfold frBody
    rw [e2, List.drop_append_of_le_length (by omega), List.take_append_of_le_length (by simp; omega)]
  refine ⟨?_, e2, e3⟩
  unfold logSt
  rw [e1, e2, e3, if_neg (by rw [List.length_append]; omega), if_pos h2, if_neg (by rw [List.length_append]; omega), if_pos h3]
theorem Rch.app {n : Nat} {log : Bs} {a : Nat} {h : Pc} {x : Ext} (r : Rch n log a h x) (s : Bs) : Rch n (log ++ s) a h x := by
  refine r (fun a h x => Rch n (log ++ s) a h x) ?_ ?_
  · exact Rch.zero
  · intro a h x ih hs
    obtain ⟨e1, e2, e3⟩ := st_app s hs
    have := Rch.step ih e1
    rw [e2, e3] at this
    exact this

theorem take_l {a b : Bs} {m : Nat} (h : a.length = m) : (a ++ b).take m = a := by subst h; rw [List.take_left]
theorem drop_l {a b : Bs} {m : Nat} (h : a.length = m) : (a ++ b).drop m = b := by subst h; rw [List.drop_left]

theorem okD_lastD (d : Nat) : okD (lastD d 3) = true := by
  have : lastD d 3 = [dig (d / 10 ^ 2 % 10), dig (d / 10 ^ 1 % 10), dig (d / 10 ^ 0 % 10)] := rfl
  rw [this]
  simp [okD, isDigB_dig _ (Nat.mod_lt _ (by decide))]
theorem numTo_lastD (d : Nat) (h : d < 1000) : numTo (lastD d 3) 3 = d := by
  have : lastD d 3 = [dig (d / 10 ^ 2 % 10), dig (d / 10 ^ 1 % 10), dig (d / 10 ^ 0 % 10)] := rfl
  rw [this]
  simp only [numTo, List.getD_cons_zero, List.getD_cons_succ]
  rw [dig_toNat _ (by omega), dig_toNat _ (by omega), dig_toNat _ (by omega)]
  simp; omega

/-- A frame at the end of a log. -/
theorem fr_at (log b s : Bs) (hb : b.length < 1000) : ((log ++ frameL b ++ s).drop log.length).take 3 = lastD b.length 3 ∧ frLen (log ++ frameL b ++ s) log.length = b.length ∧ frBody (log ++ frameL b ++ s) log.length = b := by
  have e0 : (log ++ frameL b ++ s).drop log.length = lastD b.length 3 ++ (b ++ s) := by
    rw [List.append_assoc, List.drop_left]; simp [frameL]
  have e1 : ((log ++ frameL b ++ s).drop log.length).take 3 = lastD b.length 3 := by
    rw [e0, take_l (lastD_len _ _)]
  have e2 : frLen (log ++ frameL b ++ s) log.length = b.length := by unfold frLen; rw [e1, numTo_lastD _ hb]
  refine ⟨e1, e2, ?_⟩
  unfold frBody
  rw [e2, ← List.drop_drop, e0, drop_l (lastD_len _ _), List.take_left]

/-- A frame more. -/
theorem Rch.frame {n : Nat} {log : Bs} {h : Pc} {x : Ext} (r : Rch n log log.length h x) (b : Bs) (hb : b.length < 1000) (ho : stepOk n (log.length == 0) h b = true) :
    Rch n (log ++ frameL b) (log ++ frameL b).length (stepTo n (log.length == 0) h b) (stepX n (log.length == 0) h x b) := by
  obtain ⟨e1, e2, e3⟩ := fr_at log b [] hb
  rw [List.append_nil] at e1 e2 e3
  have hs : logSt n (log ++ frameL b) log.length h = 2 := by
    unfold logSt
    rw [e1, e2, e3, if_neg (by rw [List.length_append, frameL_len]; omega), if_pos (okD_lastD _), if_neg (by rw [List.length_append, frameL_len]; omega), if_pos ho]
  have := Rch.step (r.app (frameL b)) hs
  rw [e2, e3] at this
  rw [List.length_append, frameL_len, show log.length + (3 + b.length) = log.length + 3 + b.length by omega]
  exact this

/-- The end that was cut short. -/
theorem cut_end {n : Nat} {log : Bs} {h : Pc} (b : Bs) (hb : b.length < 1000) (k : Nat) (hk : k < (frameL b).length) : logSt n (log ++ (frameL b).take k) log.length h = 0 := by
  unfold logSt
  by_cases h3 : k < 3
  · rw [if_pos (by rw [List.length_append, List.length_take]; omega)]
  · have hl : (log ++ (frameL b).take k).length = log.length + k := by rw [List.length_append, List.length_take]; omega
    have e1 : ((log ++ (frameL b).take k).drop log.length).take 3 = lastD b.length 3 := by
      rw [List.drop_left, List.take_take, Nat.min_eq_left (by omega), frameL, take_l (lastD_len _ _)]
    have e2 : frLen (log ++ (frameL b).take k) log.length = b.length := by unfold frLen; rw [e1, numTo_lastD _ hb]
    rw [frameL_len] at hk
    rw [hl, e1, e2, if_neg (by omega), if_pos (okD_lastD _), if_pos (by omega)]
theorem whole_end {n : Nat} {log : Bs} {h : Pc} : logSt n log log.length h = 0 := by
  unfold logSt; rw [if_pos (by omega)]

/-- What an event writes, read again. -/
theorem Rch.delta {n : Nat} {log : Bs} {h : Pc} {x : Ext} (r : Rch n log log.length h x) (hl : x.log = log) (q : Pc) (hq : q.fine) (iq : q.inb) (hf : fitsB n h q = true) (hd : h.dots < (h.join q).dots) : Rch n (x.take q).log (x.take q).log.length (h.join q) (x.take q) := by
  obtain ⟨o1, o2⟩ := read_text hq iq
  have hb : ([68] ++ q.text).length < 1000 := by have := text_len' q hq.ok; simp; omega
  have hdo : deltaOk n h q.text = true := by simp [deltaOk, o1, o2, hf, hd]
  have := r.frame ([68] ++ q.text) hb (by simp [stepOk, hdo])
  have e1 : stepTo n (log.length == 0) h ([68] ++ q.text) = h.join q := by simp [stepTo, deltaTo, hdo, o2]
  have e2 : stepX n (log.length == 0) h x ([68] ++ q.text) = x.take q := by simp [stepX, deltaX, hdo, o2]
  rw [e1, e2] at this
  have e3 : (x.take q).log = log ++ frameL ([68] ++ q.text) := by rw [Ext.take, hl]
  rw [e3]; exact this

/-- A replica as Open makes it. -/
def Ext.bare (x : Ext) : Ext := ⟨x.had, x.log, [], fun _ => 0⟩

/-- A log that was made short. -/
theorem Rch.compact (n : Nat) (p : Pc) (x : Ext) (hp : p.fine) (ip : p.inb) (hf : fitsB n Pc.empty p = true) (hh : x.had ≤ p.dots) : Rch n (x.compact p).log (x.compact p).log.length p (x.compact p).bare := by
  obtain ⟨o1, o2⟩ := read_text hp ip
  have h27 := size_le27 p
  have hl2 : (lastD x.had 2).length = 2 := lastD_len _ _
  have hok2 : okD (lastD x.had 2) = true := by
    have : lastD x.had 2 = [dig (x.had / 10 ^ 1 % 10), dig (x.had / 10 ^ 0 % 10)] := rfl
    rw [this]; simp [okD, isDigB_dig _ (Nat.mod_lt _ (by decide))]
  have hnum : numTo (lastD x.had 2) 2 = x.had := by
    have : lastD x.had 2 = [dig (x.had / 10 ^ 1 % 10), dig (x.had / 10 ^ 0 % 10)] := rfl
    rw [this]
    simp only [numTo, List.getD_cons_zero, List.getD_cons_succ]
    rw [dig_toNat _ (by omega), dig_toNat _ (by omega)]
    simp; omega
  have t1 : (lastD x.had 2 ++ p.text).take 2 = lastD x.had 2 := take_l hl2
  have t2 : (lastD x.had 2 ++ p.text).drop 2 = p.text := drop_l hl2
  have hw : wholeOk n Pc.empty (lastD x.had 2 ++ p.text) = true := by
    unfold wholeOk
    rw [t1, t2, hok2, o1, o2, hf, hnum, decide_eq_true hh]
    simp [hl2]
  have hb : ([83] ++ lastD x.had 2 ++ p.text).length < 1000 := by have := text_len' p hp.ok; simp [hl2]; omega
  have r0 : Rch n [] ([] : Bs).length Pc.empty Ext.zero := Rch.zero
  have := r0.frame ([83] ++ lastD x.had 2 ++ p.text) hb (by simp [stepOk, hw])
  have e1 : stepTo n (([] : Bs).length == 0) Pc.empty ([83] ++ lastD x.had 2 ++ p.text) = p := by simp [stepTo, wholeTo, hw, t2, o2]
  have e2 : stepX n (([] : Bs).length == 0) Pc.empty Ext.zero ([83] ++ lastD x.had 2 ++ p.text) = (x.compact p).bare := by
    simp [stepX, wholeX, hw, t1, t2, o2, hnum, Ext.compact, Ext.bare, Ext.zero]
  rw [e1, e2, List.nil_append] at this
  exact this
end Go.Proofs.YtalaldfgjgpacaaGreatDoor

namespace Go.Proofs.YtalaldfgjgpacaaGreatDoor
set_option linter.unusedVariables false
set_option linter.unusedSimpArgs false
open Go.RowKit
attribute [local go_sem ↓] Go.wp_at_zero Go.wp_at_succ

set_option maxRecDepth 100000 in
set_option maxHeartbeats 4000000 in
theorem readFrame_any (b me n : Nat) (h0 : Pc) (x : Ext) (l : Bs) (first : Bool) (w : World) (hl : l.length ≤ 1000000) (hn : n ≤ 3) (hx : x.small) (ht : Tab Tryz.prog w) (h : w.heap[b]? = some (.cells (repArr me n h0 x) 69)) :
    Calls Tryz.prog 136 #[.pointer (some ⟨b, 0, none⟩), .string ⟨l.toArray⟩, .bool first] w fun e w' => e = .returned (.bool (stepOk n first h0 l)) ∧ RepTo b me n (stepTo n first h0 l) (stepX n first h0 x l) w w' := by
  obtain ⟨sk, hsk⟩ : ∃ sk, sk = stepOk n first h0 l := ⟨_, rfl⟩
  obtain ⟨st, hst⟩ : ∃ st, st = stepTo n first h0 l := ⟨_, rfl⟩
  obtain ⟨sx, hsx⟩ : ∃ sx, sx = stepX n first h0 x l := ⟨_, rfl⟩
  rw [← hsk, ← hst, ← hsx]
  have H := hid h
  cases l with
  | nil =>
    have HE : Hid (sk = false ∧ st = h0 ∧ sx = x) := ⟨hsk, hst, hsx⟩
    clear hsk hst hsx h ht hx hn
    go_enter Tryz.func136, Tryz.ntmps136
    go_wp2
    go_ret
    rw [HE.out.1, HE.out.2.1, HE.out.2.2]
    exact ⟨rfl, ⟨H.out, Bx.rfl b w⟩⟩
  | cons c t =>
    obtain ⟨y, hy⟩ : ∃ y : ByteArray, y = ⟨(c :: t).toArray⟩ := ⟨_, rfl⟩
    have hys : y.size = t.length + 1 := by rw [hy, bs_size]; rfl
    have h0y : 0 < y.size := by omega
    have hb0 : y[0]'h0y = c := by subst hy; rfl
    have hyne : (y.toList == []) = false := by rw [hy, bs_toList]; rfl
    have HXt : Hid (y.extract 1 y.size = ByteArray.mk t.toArray) := by
      show _ = _
      rw [hys, hy]
      exact (bs_extract (c :: t) 1 _).trans (by simp)
    have HD := hid (fun wx ht' hw => readDelta_any b me n h0 x t wx (by simp at hl; omega) hn hx ht' hw)
    have HW := hid (fun wx ht' hw => readWhole_any b me n h0 x t wx (by simp at hl; omega) hn ht' hw)
    have T := hid ht
    have HYS := hid hys
    have g1 : (1 : Int) ≤ (y.size : Int) := by omega
    have g1' : 1 ≤ y.size := by omega
    rw [← hy]
    have SK := hid hsk
    have ST := hid hst
    have SX := hid hsx
    clear hy h ht hx hn hl hys hsk hst hsx
    by_cases h68 : c = 68
    · have HE : Hid (sk = deltaOk n h0 t ∧ st = deltaTo n h0 t ∧ sx = deltaX n h0 x t) := by
        refine ⟨?_, ?_, ?_⟩
        · rw [SK.out, stepOk, if_pos h68]
        · rw [ST.out, stepTo, if_pos h68]
        · rw [SX.out, stepX, if_pos h68]
      have c68 : ((c.toNat : Int) == 68) = true := by rw [h68]; rfl
      clear h68
      generalize deltaOk n h0 t = dk at *
      generalize deltaTo n h0 t = dt at *
      generalize deltaX n h0 x t = dx at *
      go_enter Tryz.func136, Tryz.ntmps136
      go_wp2_with fail
      rw [HXt.out]
      refine (HD.out _ T.out H.out).mono ?_
      rintro e w1 ⟨rfl, r1⟩
      have R1 := hid r1
      clear r1
      go_wp2
      go_ret
      rw [HE.out.1, HE.out.2.1, HE.out.2.2]
      exact ⟨rfl, R1.out⟩
    · have c68 : ((c.toNat : Int) == 68) = false := by
        rw [beq_eq_false_iff_ne]; intro e; exact h68 (UInt8.toNat_inj.1 (by show c.toNat = 68; omega))
      by_cases h83 : c = 83
      · have c83 : ((c.toNat : Int) == 83) = true := by rw [h83]; rfl
        have HNO := hid h68
        have HYE := hid h83
        cases first
        · have HE : Hid (sk = false ∧ st = h0 ∧ sx = x) := by
            refine ⟨?_, ?_, ?_⟩
            · rw [SK.out, stepOk, if_neg HNO.out]; simp
            · rw [ST.out, stepTo, if_neg HNO.out]; simp
            · rw [SX.out, stepX, if_neg HNO.out]; simp
          clear h68 h83 SK ST SX HNO HYE
          go_enter Tryz.func136, Tryz.ntmps136
          go_wp2
          go_ret
          rw [HE.out.1, HE.out.2.1, HE.out.2.2]
          exact ⟨rfl, ⟨H.out, Bx.rfl b w⟩⟩
        · have HE : Hid (sk = wholeOk n h0 t ∧ st = wholeTo n h0 t ∧ sx = wholeX n h0 x t) := by
            refine ⟨?_, ?_, ?_⟩
            · rw [SK.out, stepOk, if_neg HNO.out, HYE.out]; simp
            · rw [ST.out, stepTo, if_neg HNO.out, HYE.out]; simp
            · rw [SX.out, stepX, if_neg HNO.out, HYE.out]; simp
          clear h68 h83 SK ST SX HNO HYE
          generalize wholeOk n h0 t = dk at *
          generalize wholeTo n h0 t = dt at *
          generalize wholeX n h0 x t = dx at *
          go_enter Tryz.func136, Tryz.ntmps136
          go_wp2_with fail
          rw [HXt.out]
          refine (HW.out _ T.out H.out).mono ?_
          rintro e w1 ⟨rfl, r1⟩
          have R1 := hid r1
          clear r1
          go_wp2
          go_ret
          rw [HE.out.1, HE.out.2.1, HE.out.2.2]
          exact ⟨rfl, R1.out⟩
      · have c83 : ((c.toNat : Int) == 83) = false := by
          rw [beq_eq_false_iff_ne]; intro e; exact h83 (UInt8.toNat_inj.1 (by show c.toNat = 83; omega))
        have HE : Hid (sk = false ∧ st = h0 ∧ sx = x) := by
          refine ⟨?_, ?_, ?_⟩
          · rw [SK.out, stepOk, if_neg h68]; simp [h83]
          · rw [ST.out, stepTo, if_neg h68]; simp [h83]
          · rw [SX.out, stepX, if_neg h68]; simp [h83]
        clear h68 h83 SK ST SX
        go_enter Tryz.func136, Tryz.ntmps136
        go_wp2
        go_ret
        rw [HE.out.1, HE.out.2.1, HE.out.2.2]
        exact ⟨rfl, ⟨H.out, Bx.rfl b w⟩⟩
end Go.Proofs.YtalaldfgjgpacaaGreatDoor

namespace Go.Proofs.YtalaldfgjgpacaaGreatDoor
set_option linter.unusedVariables false
set_option linter.unusedSimpArgs false
open Go.RowKit
attribute [local go_sem ↓] Go.wp_at_zero Go.wp_at_succ

/-- So many noughts. -/
def noughtsL (n : Nat) : Bs := List.replicate n 48

set_option maxRecDepth 100000 in
set_option maxHeartbeats 1000000 in
theorem zeros_any (n : Nat) (w : World) (hn : n ≤ 3) :
    Calls Tryz.prog 60 #[.int .i64 n] w fun e w' => e = .returned (.string ⟨(noughtsL n).toArray⟩) ∧ w' = w := by
  go_enter Tryz.func60, Tryz.ntmps60
  go_wp2
  go_loop [3, 4] (fun s i => ∃ k : Nat, k ≤ n ∧ i = .int .i64 k ∧ s = .string ⟨(noughtsL k).toArray⟩) (fun _ i => n - (intOf i).toNat)
  case atStart => exact ⟨0, by omega, rfl, rfl⟩
  case round =>
    obtain ⟨k, hk, rfl, rfl⟩ := hrel
    have HS : Hid ((ByteArray.mk (noughtsL k).toArray) ++ (ByteArray.mk #[48]) = ByteArray.mk (noughtsL (k + 1)).toArray) := by
      show _ = _
      have := ByteArray.mk_append_mk (noughtsL k) [48]
      rw [show noughtsL (k + 1) = noughtsL k ++ [48] by simp [noughtsL, List.replicate_succ']]
      exact this
    have hl : (noughtsL k).length = k := by simp [noughtsL]
    obtain ⟨z, hz⟩ : ∃ z, z = noughtsL k := ⟨_, rfl⟩
    rw [← hz] at HS hl ⊢
    have HZ := hid hz
    clear hz
    by_cases hlt : k < n
    · go_wp2
      go_round
      case rel => exact ⟨k + 1, by omega, by go_num, by rw [← HS.out]⟩
      case measure => simp [intOf]; omega
    · have hkn : k = n := by omega
      subst hkn
      go_wp2
      go_ret
      exact ⟨by rw [← HZ.out]; rfl, rfl⟩

set_option maxRecDepth 100000 in
set_option maxHeartbeats 1000000 in
theorem copied_1 (a : Int) (g : Nat) (w : World) (h : w.heap[g]? = some (.cells #[.int .i64 a] 3)) :
    Calls Tryz.prog 120 #[.slice (some ⟨g, 0, none⟩) 1 1] w fun e w' => e = .returned (.slice (some ⟨w.heap.size, 0, none⟩) 1 1) ∧ w'.heap[w.heap.size]? = some (.cells #[.int .i64 a] 3) ∧ Blw w w' := by
  have hm := mkAck1
  have hg := lt_of_blk h
  have HS : Hid (∀ j u, ([.int .i64 a] : List Value)[j]? = some u → (w.alloc (.cells #[.int .i64 0] 3)).cell? ((⟨g, 0, none⟩ : Addr).add j) = some u) := by
    intro j u hj
    have e := blk_cell (hp_old (.cells #[.int .i64 0] 3) hg h) j
    rw [Addr.add_lit, Nat.zero_add, e]
    simpa using hj
  have HZ := hid (hp_new w (.cells #[.int .i64 0] 3))
  have h1 : ∀ v ∈ ([.int .i64 a] : List Value), v.oneCell' = true := by
    intro v hv
    simp at hv
    subst hv; rfl
  obtain ⟨w2, hw2⟩ : ∃ w2, w2 = (w.alloc (.cells #[.int .i64 0] 3)).setRow w.heap.size ((#[.int .i64 0] : Array Value).toList.take 0 ++ ([.int .i64 a] : List Value) ++ (#[.int .i64 0] : Array Value).toList.drop (0 + ([.int .i64 a] : List Value).length)).toArray := ⟨_, rfl⟩
  have hcp : (Builtin.copy_ #[36, 36] 3 #[.slice (some ⟨w.heap.size, 0, none⟩) 1 1, .slice (some ⟨g, 0, none⟩) 1 1]).run Tryz.prog (w.alloc (.cells #[.int .i64 0] 3)) = .ok (.int .i64 1) w2 := by
    rw [hw2]
    exact run_copy_row (P := Tryz.prog) _ 36 36 3 3 w.heap.size 0 1 1 ⟨g, 0, none⟩ 1 1 #[.int .i64 0] 3 [.int .i64 a] Tryz.underlying36 (by kernel_rfl) HZ.out rfl HS.out (by simp) h1
  have HG2 : Hid (w2.heap[w.heap.size]? = some (.cells #[.int .i64 a] 3)) := by rw [hw2]; exact setRow_heap _ _ _ _ _ _ HZ.out
  have hB2 : Hid (Blw w w2) := by
    rw [hw2]
    have b : Blw w (w.alloc (.cells #[.int .i64 0] 3)) := (Blw.rfl w).al _
    exact below_setRow b (Nat.le_refl _) _
  clear h hw2
  go_enter Tryz.func120, Tryz.ntmps120
  go_wp2
  go_ret
  exact ⟨rfl, HG2.out, hB2.out⟩

set_option maxRecDepth 100000 in
set_option maxHeartbeats 1000000 in
theorem copied_2 (a b : Int) (g : Nat) (w : World) (h : w.heap[g]? = some (.cells #[.int .i64 a, .int .i64 b] 3)) :
    Calls Tryz.prog 120 #[.slice (some ⟨g, 0, none⟩) 2 2] w fun e w' => e = .returned (.slice (some ⟨w.heap.size, 0, none⟩) 2 2) ∧ w'.heap[w.heap.size]? = some (.cells #[.int .i64 a, .int .i64 b] 3) ∧ Blw w w' := by
  have hm := mkAck2
  have hg := lt_of_blk h
  have HS : Hid (∀ j u, ([.int .i64 a, .int .i64 b] : List Value)[j]? = some u → (w.alloc (.cells #[.int .i64 0, .int .i64 0] 3)).cell? ((⟨g, 0, none⟩ : Addr).add j) = some u) := by
    intro j u hj
    have e := blk_cell (hp_old (.cells #[.int .i64 0, .int .i64 0] 3) hg h) j
    rw [Addr.add_lit, Nat.zero_add, e]
    simpa using hj
  have HZ := hid (hp_new w (.cells #[.int .i64 0, .int .i64 0] 3))
  have h1 : ∀ v ∈ ([.int .i64 a, .int .i64 b] : List Value), v.oneCell' = true := by
    intro v hv
    simp at hv
    rcases hv with rfl | rfl <;> rfl
  obtain ⟨w2, hw2⟩ : ∃ w2, w2 = (w.alloc (.cells #[.int .i64 0, .int .i64 0] 3)).setRow w.heap.size ((#[.int .i64 0, .int .i64 0] : Array Value).toList.take 0 ++ ([.int .i64 a, .int .i64 b] : List Value) ++ (#[.int .i64 0, .int .i64 0] : Array Value).toList.drop (0 + ([.int .i64 a, .int .i64 b] : List Value).length)).toArray := ⟨_, rfl⟩
  have hcp : (Builtin.copy_ #[36, 36] 3 #[.slice (some ⟨w.heap.size, 0, none⟩) 2 2, .slice (some ⟨g, 0, none⟩) 2 2]).run Tryz.prog (w.alloc (.cells #[.int .i64 0, .int .i64 0] 3)) = .ok (.int .i64 2) w2 := by
    rw [hw2]
    exact run_copy_row (P := Tryz.prog) _ 36 36 3 3 w.heap.size 0 2 2 ⟨g, 0, none⟩ 2 2 #[.int .i64 0, .int .i64 0] 3 [.int .i64 a, .int .i64 b] Tryz.underlying36 (by kernel_rfl) HZ.out rfl HS.out (by simp) h1
  have HG2 : Hid (w2.heap[w.heap.size]? = some (.cells #[.int .i64 a, .int .i64 b] 3)) := by rw [hw2]; exact setRow_heap _ _ _ _ _ _ HZ.out
  have hB2 : Hid (Blw w w2) := by
    rw [hw2]
    have b : Blw w (w.alloc (.cells #[.int .i64 0, .int .i64 0] 3)) := (Blw.rfl w).al _
    exact below_setRow b (Nat.le_refl _) _
  clear h hw2
  go_enter Tryz.func120, Tryz.ntmps120
  go_wp2
  go_ret
  exact ⟨rfl, HG2.out, hB2.out⟩

set_option maxRecDepth 100000 in
set_option maxHeartbeats 1000000 in
theorem copied_3 (a b c : Int) (g : Nat) (w : World) (h : w.heap[g]? = some (.cells #[.int .i64 a, .int .i64 b, .int .i64 c] 3)) :
    Calls Tryz.prog 120 #[.slice (some ⟨g, 0, none⟩) 3 3] w fun e w' => e = .returned (.slice (some ⟨w.heap.size, 0, none⟩) 3 3) ∧ w'.heap[w.heap.size]? = some (.cells #[.int .i64 a, .int .i64 b, .int .i64 c] 3) ∧ Blw w w' := by
  have hm := mkAck3
  have hg := lt_of_blk h
  have HS : Hid (∀ j u, ([.int .i64 a, .int .i64 b, .int .i64 c] : List Value)[j]? = some u → (w.alloc (.cells #[.int .i64 0, .int .i64 0, .int .i64 0] 3)).cell? ((⟨g, 0, none⟩ : Addr).add j) = some u) := by
    intro j u hj
    have e := blk_cell (hp_old (.cells #[.int .i64 0, .int .i64 0, .int .i64 0] 3) hg h) j
    rw [Addr.add_lit, Nat.zero_add, e]
    simpa using hj
  have HZ := hid (hp_new w (.cells #[.int .i64 0, .int .i64 0, .int .i64 0] 3))
  have h1 : ∀ v ∈ ([.int .i64 a, .int .i64 b, .int .i64 c] : List Value), v.oneCell' = true := by
    intro v hv
    simp at hv
    rcases hv with rfl | rfl | rfl <;> rfl
  obtain ⟨w2, hw2⟩ : ∃ w2, w2 = (w.alloc (.cells #[.int .i64 0, .int .i64 0, .int .i64 0] 3)).setRow w.heap.size ((#[.int .i64 0, .int .i64 0, .int .i64 0] : Array Value).toList.take 0 ++ ([.int .i64 a, .int .i64 b, .int .i64 c] : List Value) ++ (#[.int .i64 0, .int .i64 0, .int .i64 0] : Array Value).toList.drop (0 + ([.int .i64 a, .int .i64 b, .int .i64 c] : List Value).length)).toArray := ⟨_, rfl⟩
  have hcp : (Builtin.copy_ #[36, 36] 3 #[.slice (some ⟨w.heap.size, 0, none⟩) 3 3, .slice (some ⟨g, 0, none⟩) 3 3]).run Tryz.prog (w.alloc (.cells #[.int .i64 0, .int .i64 0, .int .i64 0] 3)) = .ok (.int .i64 3) w2 := by
    rw [hw2]
    exact run_copy_row (P := Tryz.prog) _ 36 36 3 3 w.heap.size 0 3 3 ⟨g, 0, none⟩ 3 3 #[.int .i64 0, .int .i64 0, .int .i64 0] 3 [.int .i64 a, .int .i64 b, .int .i64 c] Tryz.underlying36 (by kernel_rfl) HZ.out rfl HS.out (by simp) h1
  have HG2 : Hid (w2.heap[w.heap.size]? = some (.cells #[.int .i64 a, .int .i64 b, .int .i64 c] 3)) := by rw [hw2]; exact setRow_heap _ _ _ _ _ _ HZ.out
  have hB2 : Hid (Blw w w2) := by
    rw [hw2]
    have b : Blw w (w.alloc (.cells #[.int .i64 0, .int .i64 0, .int .i64 0] 3)) := (Blw.rfl w).al _
    exact below_setRow b (Nat.le_refl _) _
  clear h hw2
  go_enter Tryz.func120, Tryz.ntmps120
  go_wp2
  go_ret
  exact ⟨rfl, HG2.out, hB2.out⟩
end Go.Proofs.YtalaldfgjgpacaaGreatDoor

namespace Go.Proofs.YtalaldfgjgpacaaGreatDoor
set_option linter.unusedVariables false
set_option linter.unusedSimpArgs false

theorem run_cut {n : Nat} {log : Bs} {h : Pc} {x : Ext} (r : Rch n log log.length h x) (b : Bs) (hb : b.length < 1000) (k : Nat) (hk : k < (frameL b).length) :
    logRun n (log ++ (frameL b).take k) ((log ++ (frameL b).take k).length + 1) 0 Pc.empty Ext.zero = ⟨true, log.length, h, x⟩ := run_end (r.app _) (cut_end b hb k hk)
theorem run_whole {n : Nat} {log : Bs} {h : Pc} {x : Ext} (r : Rch n log log.length h x) : logRun n log (log.length + 1) 0 Pc.empty Ext.zero = ⟨true, log.length, h, x⟩ := run_end r whole_end

theorem clash_none {p q : Pc} (h : ∀ r i, r < 3 → i < 9 → (p r i).filled = true → (q r i).filled = true → p r i = q r i) : clashTo p q 27 = false := by
  cases hc : clashTo p q 27
  · rfl
  · obtain ⟨m, hm, hc⟩ := (clashTo_iff p q 27).1 hc
    simp only [clashSl, Bool.and_eq_true, Bool.not_eq_true', Pc.nth] at hc
    have e := h (m / 9) (m % 9) (by omega) (by omega) hc.1.1 hc.1.2
    rw [e] at hc
    have : entEq (q (m / 9) (m % 9)) (q (m / 9) (m % 9)) = true := (entEq_iff _ _).2 ⟨rfl, rfl, rfl⟩
    rw [this] at hc; exact absurd hc.2 (by decide)

theorem hole_of {p : Pc} (h : p.noHole) : p.holeTo 27 = false := by
  cases hc : p.holeTo 27
  · rfl
  · obtain ⟨r, i, hr, hi, h1, h2⟩ := (hole_iff p).1 hc
    rw [h r i hr hi h1] at h2; cases h2

theorem of_join {p q : Pc} {n : Nat} (h : ofTo p n 3 = true) (k : ofTo q n 3 = true) : ofTo (p.join q) n 3 = true := by
  rw [ofTo_iff] at *
  intro r hr
  rcases h r hr with h | h
  · exact .inl h
  · rcases k r hr with k | k
    · exact .inl k
    · right
      rw [count_zero_iff _ r hr] at *
      intro i hi
      simp only [Pc.join, joinSl_known, h i hi, k i hi, Bool.or_self]

/-- An event's own delta may be joined, and brings a dot. -/
theorem event_fits {p q : Pc} {n me k : Nat} (hp : p.fine) (hn : n ≤ 3) (hme : me < n) (hk : k = p.count (me : Int)) (hk9 : k < 9) (hh : p.noHole) (ho : ofTo p n 3 = true) (T : Sl → Bool) (hT : ∀ s, T s = true → s.filled = true)
    (hq : ∀ r i, r < 3 → i < 9 → q r i = if T (p r i) then Sl.dot else Sl.zero) (s : Sl) (hs : s.known = true) (hg : s.filled = true → s.good) (hc : s.filled = false → s.cart = 0 ∧ s.item = 0 ∧ s.value = 0) :
    fitsB n p (q.put me k s) = true ∧ p.dots < (p.join (q.put me k s)).dots := by
  have hnk : (p me k).known = false := by rw [hh.at (by omega) hk9, hk]; simp
  have hqk : ∀ r i, r < 3 → i < 9 → (q r i).known = T (p r i) ∧ (q r i).filled = false := by
    intro r i hr hi
    rw [hq r i hr hi]
    cases T (p r i) <;> simp [Sl.dot, Sl.zero]
  have hTk : ∀ r i, r < 3 → i < 9 → T (p r i) = true → (p r i).known = true := fun r i hr hi ht => (hp.ok r i hr hi (hT _ ht)).1
  have r3 : (p.join (q.put me k s)).noHole := by
    intro r i hr hi
    simp only [Pc.join, joinSl_known]
    have hpi := hh.at hr (show i < 9 by omega)
    have hpi1 := hh.at hr hi
    have hd : ∀ j, j < 9 → ((q.put me k s) r j).known = true → (p r j).known = true ∨ (r = me ∧ j = k) := by
      intro j hj hkn
      unfold Pc.put at hkn
      split at hkn
      · rename_i e; exact .inr e
      · rw [(hqk r j hr hj).1] at hkn
        exact .inl (hTk r j hr hj hkn)
    intro hor
    have hlt : i + 1 ≤ p.count (r : Int) := by
      rcases Bool.or_eq_true_iff.1 hor with h1 | h1
      · rw [hpi1] at h1; simp at h1; omega
      · rcases hd _ hi h1 with h2 | ⟨rfl, h2⟩
        · rw [hpi1] at h2; simp at h2; omega
        · omega
    rw [hpi]; simp; left; omega
  have r1 : ofTo (q.put me k s) n 3 = true := by
    rw [ofTo_iff] at ho ⊢
    intro r hr
    by_cases e : r < n
    · exact .inl e
    · right
      rw [count_zero_iff _ r hr]
      intro i hi
      have hp0 := (count_zero_iff p r hr).1 ((ho r hr).resolve_left e) i hi
      unfold Pc.put
      rw [if_neg (by omega), (hqk r i hr hi).1]
      cases ht : T (p r i)
      · rfl
      · rw [hTk r i hr hi ht] at hp0; cases hp0
  have r2 : clashTo p (q.put me k s) 27 = false := by
    refine clash_none fun r i hr hi hf hf' => ?_
    unfold Pc.put at hf'
    split at hf'
    · rename_i e
      obtain ⟨rfl, rfl⟩ := e
      rw [(hp.ok r i hr hi hf).1] at hnk; cases hnk
    · rw [(hqk r i hr hi).2] at hf'; cases hf'
  refine ⟨?_, ?_⟩
  · unfold fitsB; rw [r1, r2, hole_of r3]; rfl
  · rw [dots_lt (fun r i _ _ h => by simp only [Pc.join, joinSl_known, h, Bool.true_or])]
    refine ⟨me, k, by omega, hk9, hnk, ?_⟩
    simp only [Pc.join, joinSl_known, Pc.put, and_self, if_true, hs, Bool.or_true]
end Go.Proofs.YtalaldfgjgpacaaGreatDoor
