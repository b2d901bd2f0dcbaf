import Derived.Test.YtalaldfgjgpacaaGreatDoorQE
namespace Go.Proofs.YtalaldfgjgpacaaGreatDoor
set_option linter.unusedVariables false
set_option linter.unusedSimpArgs false
open Go.RowKit

/-- How many dots. -/
def Pc.dots (p : Pc) : Nat := p.count ((0 : Nat) : Int) + p.count ((1 : Nat) : Int) + p.count ((2 : Nat) : Int)
theorem cnt_mono {kn kn' : Nat → Bool} (n : Nat) (h : ∀ i, i < n → kn i = true → kn' i = true) : cnt kn n ≤ cnt kn' n := by
  induction n with
  | zero => simp [cnt]
  | succ n ih =>
    have := ih (fun i hi => h i (by omega))
    simp only [cnt]
    by_cases hk : kn n = true
    · rw [if_pos hk, if_pos (h n (by omega) hk)]; omega
    · rw [if_neg hk]; omega
theorem count_mono {p q : Pc} (h : ∀ r i, r < 3 → i < 9 → (p r i).known = true → (q r i).known = true) (r : Nat) (hr : r < 3) : p.count (r : Int) ≤ q.count (r : Int) := by
  unfold Pc.count
  rw [if_pos (by omega), if_pos (by omega)]
  exact cnt_mono 9 (fun i hi hk => h r i hr hi (by simpa using hk))
theorem size_le27 (p : Pc) : p.dots ≤ 27 := by
  have h0 := Pc.count_le p ((0 : Nat) : Int)
  have h1 := Pc.count_le p ((1 : Nat) : Int)
  have h2 := Pc.count_le p ((2 : Nat) : Int)
  unfold Pc.dots; omega

/-- What goes with what is held. -/
def Fit (p : Pc) (x : Ext) : Prop := x.had ≤ p.dots ∧ ∀ r, x.ack r ≤ x.had

/-- What a client's call at a replica of both kinds gives. -/
structure Both (b cb me n : Nat) (p : Pc) (x : Ext) (lt : Value) (fP fR : FuncId) (args : Array Value) (tk : Bs) (er : Int) (p' : Pc) (x' : Ext) : Prop where
  prog : ∀ w, w.heap[b]? = some (.cells (repArr me n p x) 69) → Tab Tryz.prog w → Calls Tryz.prog fP (#[.pointer (some ⟨b, 0, none⟩)] ++ args) w fun e w' => e = .returned (.tuple #[.string ⟨tk.toArray⟩, .int .i64 er]) ∧ RepTo b me n p' x' w w'
  ref : ∀ w, RefAt w cb me n p x lt → Calls Tryz.prog fR (#[.pointer (some ⟨cb, 0, none⟩)] ++ args) w fun e w' => e = .returned (.tuple #[.string ⟨tk.toArray⟩, .int .i64 er]) ∧ RefStep cb me n p' x' lt w w'
  fine : p'.fine
  hole : p'.noHole
  had : x'.had ≤ x.had + 1
  log : x'.log.length ≤ x.log.length + 400
  tkl : tk.length ≤ 3
  sz : Fit p x → Fit p' x'

theorem ext_next_len (x : Ext) (q : Pc) (hq : q.ok) : (x.next q).had ≤ x.had + 1 ∧ (x.next q).log.length ≤ x.log.length + 400 := by
  refine ⟨Nat.le_refl _, ?_⟩
  have := text_len' q hq
  simp only [Ext.next, List.length_append, frameL_len, List.length_singleton]; omega

theorem evTok_len (me n : Nat) (p q : Pc) (l : List UInt8) (hn : n ≤ 3) : (evTok me n p q l).length ≤ 3 := by
  unfold evTok
  split
  · rw [digsTo_len]; exact hn
  · simp

theorem put_fine {p : Pc} (hp : p.fine) (Tq : Sl → Bool) (taken : Pc) (htk : ∀ r i, r < 3 → i < 9 → taken r i = if Tq (p r i) then Sl.dot else Sl.zero) (me k : Nat) (sl : Sl) (hsl : sl.known = true) (hslg : sl.filled = true → sl.good) (hslc : sl.filled = false → sl.cart = 0 ∧ sl.item = 0 ∧ sl.value = 0) : (taken.put me k sl).fine := by
  constructor
  · intro r i hr hi hf
    unfold Pc.put at hf ⊢
    split at hf
    · rename_i e
      simp only [e, and_self, if_true]
      obtain ⟨a, b, c, d, e', f⟩ := hslg hf
      exact ⟨hsl, a, b, c, d, e', f⟩
    · rw [htk r i hr hi] at hf
      split at hf <;> cases hf
  · intro r i hr hi hf
    unfold Pc.put at hf ⊢
    split at hf
    · rename_i e
      simp only [e, and_self, if_true]
      exact hslc hf
    · rename_i e
      simp only [e, if_false]
      rw [htk r i hr hi]
      split <;> exact ⟨rfl, rfl, rfl⟩
theorem put_hole {p : Pc} (hp : p.fine) (hh : p.noHole) (Tq : Sl → Bool) (hTq : ∀ s, Tq s = true → s.filled = true) (taken : Pc) (htk : ∀ r i, r < 3 → i < 9 → taken r i = if Tq (p r i) then Sl.dot else Sl.zero) (me : Nat) (sl : Sl) (hme : me < 3) : (p.join (taken.put me (p.count (me : Int)) sl)).noHole := by
  intro r i hr hi
  simp only [Pc.join, joinSl_known]
  have hpi := hh.at hr (show i < 9 by omega)
  have hpi1 := hh.at hr hi
  have hd : ∀ j, j < 9 → ((taken.put me (p.count (me : Int)) sl) r j).known = true → (p r j).known = true ∨ (r = me ∧ j = p.count (me : Int)) := by
    intro j hj hkn
    unfold Pc.put at hkn
    split at hkn
    · rename_i e; exact .inr e
    · rw [htk r j hr hj] at hkn
      split at hkn
      · rename_i ht; exact .inl (hp.ok r j hr hj (hTq _ ht)).1
      · cases hkn
  intro hor
  have hlt : i + 1 ≤ p.count (r : Int) := by
    rcases Bool.or_eq_true_iff.1 hor with h1 | h1
    · rw [hpi1] at h1; simp at h1; omega
    · rcases hd _ hi h1 with h2 | ⟨rfl, h2⟩
      · rw [hpi1] at h2; simp at h2; omega
      · omega
  rw [hpi]; simp; left; omega

theorem size_event {p : Pc} (hp : p.fine) {me : Nat} {q : Pc} (hh : (p.join q).noHole) (hme : me < 3) (hk : p.count (me : Int) < 9) (q' : Pc) (hq : (q me (p.count (me : Int))).known = true) : p.dots + 1 ≤ (p.join q).dots := by
  have mono : ∀ r i, r < 3 → i < 9 → (p r i).known = true → ((p.join q) r i).known = true := fun r i _ _ h => by simp [Pc.join, joinSl_known, h]
  have m0 := count_mono mono 0 (by omega)
  have m1 := count_mono mono 1 (by omega)
  have m2 := count_mono mono 2 (by omega)
  have hk2 : ((p.join q) me (p.count (me : Int))).known = true := by simp [Pc.join, joinSl_known, hq]
  rw [hh.at hme hk] at hk2
  have hlt : p.count (me : Int) < (p.join q).count (me : Int) := by simpa using hk2
  unfold Pc.dots
  have : me = 0 ∨ me = 1 ∨ me = 2 := by omega
  rcases this with rfl | rfl | rfl <;> omega

/-- What an event leaves, in general. -/
theorem ev_keeps {p : Pc} (hp : p.fine) (hh : p.noHole) (me n : Nat) (hme : me < 3) (l : List UInt8) (Tq : Sl → Bool) (hTq : ∀ s, Tq s = true → s.filled = true) (taken : Pc) (htk : ∀ r i, r < 3 → i < 9 → taken r i = if Tq (p r i) then Sl.dot else Sl.zero)
    (sl : Sl) (hsl : sl.known = true) (hslg : sl.filled = true → sl.good) (hslc : sl.filled = false → sl.cart = 0 ∧ sl.item = 0 ∧ sl.value = 0) (x : Ext) (p' : Pc) (x' : Ext)
    (e2 : p' = if evErr me n p l = 0 then p.join (taken.put me (p.count (me : Int)) sl) else p) (e3 : x' = if evErr me n p l = 0 then x.next (taken.put me (p.count (me : Int)) sl) else x) :
    p'.fine ∧ p'.noHole ∧ x'.had ≤ x.had + 1 ∧ x'.log.length ≤ x.log.length + 400 ∧ (Fit p x → Fit p' x') := by
  by_cases hE : evErr me n p l = 0
  · rw [if_pos hE] at e2 e3
    have r2 := put_fine hp Tq taken htk me (p.count (me : Int)) sl hsl hslg hslc
    have := ext_next_len x _ r2.ok
    rw [e2, e3]
    have hhole := put_hole hp hh Tq hTq taken htk me sl hme
    refine ⟨join_fine hp r2, hhole, this.1, this.2, fun hsz => ?_⟩
    have hz := size_event hp hhole hme (evErr_lt hE) Pc.empty (by simp [Pc.put, hsl])
    refine ⟨?_, fun r => ?_⟩
    · have := hsz.1
      show x.had + 1 ≤ _
      omega
    · have := hsz.2 r
      show x.ack r ≤ x.had + 1
      omega
  · rw [if_neg hE] at e2 e3
    rw [e2, e3]
    exact ⟨hp, hh, by omega, by omega, id⟩

theorem same_both (b cb me n : Nat) (p : Pc) (x : Ext) (lt : Value) (fP fR : FuncId) (args : Array Value) (hp : p.fine) (hh : p.noHole)
    (h1 : ∀ w, Calls Tryz.prog fP (#[.pointer (some ⟨b, 0, none⟩)] ++ args) w fun e w' => e = .returned (.tuple #[.string ⟨#[]⟩, .int .i64 1]) ∧ w' = w)
    (h2 : ∀ w, Calls Tryz.prog fR (#[.pointer (some ⟨cb, 0, none⟩)] ++ args) w fun e w' => e = .returned (.tuple #[.string ⟨#[]⟩, .int .i64 1]) ∧ w' = w) :
    Both b cb me n p x lt fP fR args [] 1 p x :=
  ⟨fun w hb _ => (h1 w).mono fun e w' h => ⟨h.1, by rw [h.2]; exact ⟨hb, Bx.rfl _ _⟩⟩, fun w hr => (h2 w).mono fun e w' h => ⟨h.1, by rw [h.2]; exact RefStep.same hr (Blw.rfl _)⟩, hp, hh, by omega, by omega, by simp, id⟩

theorem add_both (b cb me n : Nat) (p : Pc) (x : Ext) (lt : Value) (s : ByteArray) (c it v : Int) (hn : n ≤ 3) (hme : me < n) (hs : s.size ≤ maxLen) (hp : p.fine) (hh : p.noHole) (hx : x.small) :
    ∃ tk er p' x', Both b cb me n p x lt 41 42 #[.string s, .int .i64 c, .int .i64 it, .int .i64 v] tk er p' x' := by
  by_cases hok : 0 ≤ c ∧ c < 3 ∧ 0 ≤ it ∧ it < 4 ∧ -99 ≤ v ∧ v ≤ 99
  · obtain ⟨hc0, hc1, hi0, hi1, hv0, hv1⟩ := hok
    obtain ⟨k1, k2, k3, k4, k5⟩ := ev_keeps hp hh me n (by omega) s.data.toList (fun _ => false) (fun _ h => by cases h) Pc.empty (fun r i _ _ => rfl) ⟨true, true, c, it, v⟩ rfl (fun _ => ⟨hc0, hc1, hi0, hi1, hv0, hv1⟩) (fun h => by cases h) x (evPut me n p Pc.empty s.data.toList c it v) (evXp me n p Pc.empty x s.data.toList c it v) rfl rfl
    exact ⟨_, _, _, _, fun w hb ht => add_yes b me n p s c it v w hn hme hs hb hc0 hc1 hi0 hi1 hv0 hv1 hx ht, fun w hr => radd_yes cb me n p x lt s c it v w hn hme hs hr hp hh hx hc0 hc1 hi0 hi1 hv0 hv1 _ _ _ _ rfl rfl rfl rfl, k1, k2, k3, k4, evTok_len _ _ _ _ _ hn, k5⟩
  · exact ⟨_, _, _, _, same_both b cb me n p x lt _ _ _ hp hh (fun w => add_no b s c it v w hok) (fun w => radd_no cb s c it v w hok)⟩
theorem set_both (b cb me n : Nat) (p : Pc) (x : Ext) (lt : Value) (s : ByteArray) (c it v : Int) (hn : n ≤ 3) (hme : me < n) (hs : s.size ≤ maxLen) (hp : p.fine) (hh : p.noHole) (hx : x.small) :
    ∃ tk er p' x', Both b cb me n p x lt 43 44 #[.string s, .int .i64 c, .int .i64 it, .int .i64 v] tk er p' x' := by
  by_cases hok : 0 ≤ c ∧ c < 3 ∧ 0 ≤ it ∧ it < 4 ∧ 0 ≤ v ∧ v ≤ 99
  · obtain ⟨hc0, hc1, hi0, hi1, hv0, hv1⟩ := hok
    obtain ⟨k1, k2, k3, k4, k5⟩ := ev_keeps hp hh me n (by omega) s.data.toList (fun s => s.isOf c it) (fun _ h => (isOf_eq h).1) (p.dotsOf c it) (fun r i _ _ => rfl) ⟨true, true, c, it, v⟩ rfl (fun _ => ⟨hc0, hc1, hi0, hi1, by show -99 ≤ v; omega, hv1⟩) (fun h => by cases h) x (evPut me n p (p.dotsOf c it) s.data.toList c it v) (evXp me n p (p.dotsOf c it) x s.data.toList c it v) rfl rfl
    exact ⟨_, _, _, _, fun w hb ht => set_yes b me n p s c it v w hn hme hs hb hc0 hc1 hi0 hi1 hv0 hv1 hx ht, fun w hr => rset_yes cb me n p x lt s c it v w hn hme hs hr hp hh hx hc0 hc1 hi0 hi1 hv0 hv1 _ _ _ _ rfl rfl rfl rfl, k1, k2, k3, k4, evTok_len _ _ _ _ _ hn, k5⟩
  · exact ⟨_, _, _, _, same_both b cb me n p x lt _ _ _ hp hh (fun w => set_no b s c it v w hok) (fun w => rset_no cb s c it v w hok)⟩
theorem remove_both (b cb me n : Nat) (p : Pc) (x : Ext) (lt : Value) (s : ByteArray) (c it : Int) (hn : n ≤ 3) (hme : me < n) (hs : s.size ≤ maxLen) (hp : p.fine) (hh : p.noHole) (hx : x.small) :
    ∃ tk er p' x', Both b cb me n p x lt 45 46 #[.string s, .int .i64 c, .int .i64 it] tk er p' x' := by
  by_cases hok : 0 ≤ c ∧ c < 3 ∧ 0 ≤ it ∧ it < 4
  · obtain ⟨hc0, hc1, hi0, hi1⟩ := hok
    have hbar : evErr me n p s.data.toList = 0 → ((p.dotsOf c it) me (p.count (me : Int))).filled = false ∧ ((p.dotsOf c it) me (p.count (me : Int))).cart = 0 ∧ ((p.dotsOf c it) me (p.count (me : Int))).item = 0 ∧ ((p.dotsOf c it) me (p.count (me : Int))).value = 0 := fun _ => by
      unfold Pc.dotsOf; split <;> exact ⟨rfl, rfl, rfl, rfl⟩
    obtain ⟨k1, k2, k3, k4, k5⟩ := ev_keeps hp hh me n (by omega) s.data.toList (fun s => s.isOf c it) (fun _ h => (isOf_eq h).1) (p.dotsOf c it) (fun r i _ _ => rfl) Sl.dot rfl (fun h => by cases h) (fun _ => ⟨rfl, rfl, rfl⟩) x (evTake me n p (p.dotsOf c it) s.data.toList) (evXt me n p (p.dotsOf c it) x s.data.toList) (evTake_dot me n p _ _ hbar) (evXt_dot me n p _ x _ hbar)
    exact ⟨_, _, _, _, fun w hb ht => remove_yes b me n p s c it w hn hme hs hb hc0 hc1 hi0 hi1 hx ht, fun w hr => rremove_yes cb me n p x lt s c it w hn hme hs hr hp hh hx hc0 hc1 hi0 hi1 _ _ _ _ rfl rfl rfl rfl, k1, k2, k3, k4, evTok_len _ _ _ _ _ hn, k5⟩
  · exact ⟨_, _, _, _, same_both b cb me n p x lt _ _ _ hp hh (fun w => remove_no b s c it w hok) (fun w => rremove_no cb s c it w hok)⟩
theorem clear_both (b cb me n : Nat) (p : Pc) (x : Ext) (lt : Value) (s : ByteArray) (c : Int) (hn : n ≤ 3) (hme : me < n) (hs : s.size ≤ maxLen) (hp : p.fine) (hh : p.noHole) (hx : x.small) :
    ∃ tk er p' x', Both b cb me n p x lt 47 48 #[.string s, .int .i64 c] tk er p' x' := by
  by_cases hok : 0 ≤ c ∧ c < 3
  · obtain ⟨hc0, hc1⟩ := hok
    have hbar : evErr me n p s.data.toList = 0 → ((p.cartTo c 4) me (p.count (me : Int))).filled = false ∧ ((p.cartTo c 4) me (p.count (me : Int))).cart = 0 ∧ ((p.cartTo c 4) me (p.count (me : Int))).item = 0 ∧ ((p.cartTo c 4) me (p.count (me : Int))).value = 0 := fun hz => by
      rw [cart4_at p hp.ok c me _ (by omega) (evErr_lt hz)]; split <;> exact ⟨rfl, rfl, rfl, rfl⟩
    obtain ⟨k1, k2, k3, k4, k5⟩ := ev_keeps hp hh me n (by omega) s.data.toList (fun s => s.inCart c) (fun s h => by simp only [Sl.inCart, Bool.and_eq_true] at h; exact h.1) (p.cartTo c 4) (cart4_at p hp.ok c) Sl.dot rfl (fun h => by cases h) (fun _ => ⟨rfl, rfl, rfl⟩) x (evTake me n p (p.cartTo c 4) s.data.toList) (evXt me n p (p.cartTo c 4) x s.data.toList) (evTake_dot me n p _ _ hbar) (evXt_dot me n p _ x _ hbar)
    exact ⟨_, _, _, _, fun w hb ht => clear_yes b me n p s c w hn hme hs hb hc0 hc1 hx ht, fun w hr => rclear_yes cb me n p x lt s c w hn hme hs hr hp hh hx hc0 hc1 _ _ _ _ rfl rfl rfl rfl, k1, k2, k3, k4, evTok_len _ _ _ _ _ hn, k5⟩
  · exact ⟨_, _, _, _, same_both b cb me n p x lt _ _ _ hp hh (fun w => clear_no b s c w hok) (fun w => rclear_no cb s c w hok)⟩
end Go.Proofs.YtalaldfgjgpacaaGreatDoor
