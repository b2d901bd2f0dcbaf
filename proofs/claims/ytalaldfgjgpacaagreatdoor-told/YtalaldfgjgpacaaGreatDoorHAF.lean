import Derived.Test.YtalaldfgjgpacaaGreatDoorHAB
import Derived.Test.YtalaldfgjgpacaaGreatDoorHAE
import Derived.Deep.Cut
import Derived.BigRegion
import Derived.RegionTactic
import Derived.ChangeAlike
namespace Go.Proofs.YtalaldfgjgpacaaGreatDoor
set_option linter.unusedVariables false
set_option linter.unusedSimpArgs false

/-- The history with an event more. -/
def Hist.add (E : Hist) (r k : Nat) (e : Ev) : Hist := fun w i => if w = r ∧ i = k then e else E w i
def Vec.up (K : Vec) (r : Nat) : Vec := fun w => if w = r then K w + 1 else K w
theorem Vec.le_up (K : Vec) (r : Nat) : Vec.le K (K.up r) := by
  intro w; unfold Vec.up; split <;> omega
theorem Vec.up_at (K : Vec) (r : Nat) : K.up r r = K r + 1 := by unfold Vec.up; rw [if_pos rfl]
theorem Vec.up_ne (K : Vec) {r w : Nat} (h : w ≠ r) : K.up r w = K w := by unfold Vec.up; rw [if_neg h]
theorem add_at (E : Hist) (r k : Nat) (e : Ev) : E.add r k e r k = e := by unfold Hist.add; rw [if_pos ⟨rfl, rfl⟩]
theorem add_ne (E : Hist) {r k w i : Nat} (e : Ev) (h : ¬ (w = r ∧ i = k)) : E.add r k e w i = E w i := by unfold Hist.add; rw [if_neg h]

theorem Named.add {E : Hist} (h : Named E) {r k : Nat} {e : Ev} (h1 : e.who = r) (h2 : e.num = k + 1) : Named (E.add r k e) := by
  intro w i
  by_cases c : w = r ∧ i = k
  · obtain ⟨rfl, rfl⟩ := c
    rw [add_at]; exact ⟨h1, h2⟩
  · rw [add_ne _ _ c]; exact h w i

/-- Below what is known nothing is turned. -/
theorem add_below (E : Hist) {r k : Nat} (e : Ev) {K : Vec} (hk : K r ≤ k) : ∀ w i, i < K w → E.add r k e w i = E w i := by
  intro w i hi
  refine add_ne _ _ ?_
  rintro ⟨rfl, rfl⟩
  omega

theorem Closed.up {E : Hist} {K : Vec} (hc : Closed E K) {r : Nat} {e : Ev} (hs : e.seen = K) : Closed (E.add r (K r) e) (K.up r) := by
  intro w i hi
  by_cases c : w = r ∧ i = K r
  · obtain ⟨rfl, rfl⟩ := c
    rw [add_at, hs]; exact Vec.le_up K w
  · rw [add_ne _ _ c]
    have : i < K w := by
      unfold Vec.up at hi
      split at hi
      · rename_i h; subst h; omega
      · exact hi
    exact (hc w i this).tr (Vec.le_up K r)

/-- What an event takes away, of what is held. -/
def takeB (kd c it : Int) (s : Sl) : Bool := s.filled && (s.cart == c && (kd == 6 || s.item == it && (kd == 4 || kd == 5)))
/-- An event's delta. -/
def evD (p : Pc) (r k : Nat) (kd c it v : Int) : Pc := fun w i => if w = r ∧ i = k then (if kd = 3 ∨ kd = 4 then ⟨true, true, c, it, v⟩ else Sl.dot) else if takeB kd c it (p w i) then Sl.dot else Sl.zero

theorem takeB_fil (e f : Ev) : takeB f.kind f.cart f.item e.fil = f.here e := by
  unfold takeB Ev.here Ev.fil
  simp only [Bool.true_and]
  rw [show (e.cart == f.cart) = (f.cart == e.cart) from Bool.beq_comm, show (e.item == f.item) = (f.item == e.item) from Bool.beq_comm]

/-- An event's delta leads from what is known to that and the event. -/
theorem event_good {E : Hist} {K : Vec} (hn : Named E) (hc : Closed E K) {r : Nat} (hr : r < 3) (e : Ev) (h1 : e.who = r) (h2 : e.num = K r + 1) (h3 : e.seen = K) :
    GoodD (E.add r (K r) e) K (K.up r) (evD (held E K) r (K r) e.kind e.cart e.item e.value) := by
  have hb := add_below E e (Nat.le_refl (K r))
  have hn' : Named (E.add r (K r) e) := hn.add h1 h2
  have hc' : Closed (E.add r (K r) e) K := closed_congr hb hc
  have hcu := hc.up (r := r) h3
  have hh : held (E.add r (K r) e) K = held E K := held_congr hb
  have hputs : e.puts = true ↔ e.kind = 3 ∨ e.kind = 4 := by simp [Ev.puts]
  have hgu : ∀ x : Ev, Gone (E.add r (K r) e) (K.up r) x ↔ Gone E K x ∨ e.takes x = true := by
    intro x
    constructor
    · intro hg
      obtain ⟨w, i, hw, hi, ht⟩ := gone_iff.1 hg
      by_cases c : w = r ∧ i = K r
      · obtain ⟨rfl, rfl⟩ := c
        rw [add_at] at ht; exact .inr ht
      · rw [add_ne _ _ c] at ht
        refine .inl (gone_iff.2 ⟨w, i, hw, ?_, ht⟩)
        unfold Vec.up at hi
        split at hi
        · rename_i h; subst h; omega
        · exact hi
    · rintro (hg | ht)
      · obtain ⟨w, i, hw, hi, ht⟩ := gone_iff.1 hg
        exact gone_iff.2 ⟨w, i, hw, Nat.lt_of_lt_of_le hi (Vec.le_up K r w), by rw [hb w i hi]; exact ht⟩
      · exact gone_iff.2 ⟨r, K r, hr, by rw [Vec.up_at]; omega, by rw [add_at]; exact ht⟩
  refine ⟨?_, ?_, Vec.le_up K r, hc', hcu⟩
  · intro w i
    unfold evD
    by_cases c : w = r ∧ i = K r
    · rw [if_pos c]
      obtain ⟨rfl, rfl⟩ := c
      rw [add_at]
      split
      · exact .inr (.inr rfl)
      · exact .inr (.inl rfl)
    · rw [if_neg c]
      split
      · exact .inr (.inl rfl)
      · exact .inl rfl
  · rw [hh]
    funext w i
    show joinSl (heldSl E K w i) (evD (held E K) r (K r) e.kind e.cart e.item e.value w i) = heldSl (E.add r (K r) e) (K.up r) w i
    unfold evD
    by_cases c : w = r ∧ i = K r
    · rw [if_pos c]
      obtain ⟨rfl, rfl⟩ := c
      rw [heldSl_zero (Nat.lt_irrefl _), join_zero_l]
      have hi : K w < K.up w w := by rw [Vec.up_at]; omega
      by_cases hp : e.puts = true
      · have ng : ¬ Gone (E.add w (K w) e) (K.up w) e := by
          rw [hgu]
          rintro (hg | ht)
          · obtain ⟨a, j, _, hj, ht⟩ := gone_iff.1 hg
            have hs := hc a j hj w
            simp only [Ev.takes, Bool.and_eq_true, decide_eq_true_eq, h1, h2] at ht
            omega
          · simp only [Ev.takes, Bool.and_eq_true, decide_eq_true_eq, h1, h2, h3] at ht
            omega
        rw [if_pos (hputs.1 hp), heldSl_fil hi (by rw [add_at]; exact hp) (by rw [add_at]; exact ng), add_at]
        rfl
      · rw [if_neg (fun x => hp (hputs.2 x)), heldSl_dot hi (by rw [add_at]; exact fun x => hp x.1)]
    · rw [if_neg c]
      show joinSl (heldSl E K w i) (if takeB e.kind e.cart e.item (heldSl E K w i) = true then Sl.dot else Sl.zero) = _
      by_cases hi : i < K w
      · have hiu : i < K.up r w := Nat.lt_of_lt_of_le hi (Vec.le_up K r w)
        have eqE : E.add r (K r) e w i = E w i := hb w i hi
        by_cases hp : (E w i).puts = true ∧ ¬ Gone E K (E w i)
        · rw [heldSl_fil hi hp.1 hp.2, takeB_fil]
          obtain ⟨n1, n2⟩ := hn w i
          have htk : e.takes (E w i) = e.here (E w i) := by
            unfold Ev.takes
            rw [n1, n2, h3, decide_eq_true (show i + 1 ≤ K w by omega), Bool.and_true]
          by_cases hx : e.here (E w i) = true
          · rw [if_pos hx, join_dot_r rfl, heldSl_dot hiu (by rw [eqE, hgu, htk]; exact fun x => x.2 (.inr hx))]
          · rw [if_neg hx, join_zero_r (.inl rfl), heldSl_fil hiu (by rw [eqE]; exact hp.1) (by rw [eqE, hgu, htk]; exact fun x => x.elim hp.2 hx), eqE]
        · rw [heldSl_dot hi hp]
          have : takeB e.kind e.cart e.item Sl.dot = false := rfl
          rw [this]
          rw [heldSl_dot hiu (by rw [eqE, hgu]; exact fun x => hp ⟨x.1, fun g => x.2 (.inl g)⟩)]
          rfl
      · have hiu : ¬ i < K.up r w := by
          unfold Vec.up
          split
          · rename_i h; subst h
            have : i ≠ K w := fun e => c ⟨rfl, e⟩
            omega
          · exact hi
        rw [heldSl_zero hi, heldSl_zero hiu]
        rfl

/-- The events' entries are such as there can be. -/
def GoodE (E : Hist) (K : Vec) : Prop := ∀ r i, i < K r → (E r i).fil.good
/-- So much there can be known. -/
structure Bnd (n : Nat) (K : Vec) : Prop where
  out : ∀ w, n ≤ w → K w = 0
  nine : ∀ w, K w ≤ 9

theorem held_fine {E : Hist} {K : Vec} (h : GoodE E K) : (held E K).fine := by
  constructor
  · intro r i hr hi hf
    have hf' : (heldSl E K r i).filled = true := hf
    show (heldSl E K r i).known = true ∧ _
    by_cases hk : i < K r
    · by_cases hp : (E r i).puts = true ∧ ¬ Gone E K (E r i)
      · have e : held E K r i = (E r i).fil := heldSl_fil hk hp.1 hp.2
        have hg := h r i hk
        rw [e]
        exact ⟨by rw [heldSl_known]; exact decide_eq_true hk, hg.c0, hg.c1, hg.i0, hg.i1, hg.v0, hg.v1⟩
      · rw [heldSl_dot hk hp] at hf'; cases hf'
    · rw [heldSl_zero hk] at hf'; cases hf'
  · intro r i hr hi hf
    have hf' : (heldSl E K r i).filled = false := hf
    show (heldSl E K r i).cart = 0 ∧ (heldSl E K r i).item = 0 ∧ (heldSl E K r i).value = 0
    rcases tame_held E K r i with e | e | e
    · rw [e]; exact ⟨rfl, rfl, rfl⟩
    · rw [e]; exact ⟨rfl, rfl, rfl⟩
    · rw [e] at hf'; cases hf'

theorem held_noHole (E : Hist) (K : Vec) : (held E K).noHole := by
  intro r i hr hi h
  have h' : (heldSl E K r (i + 1)).known = true := h
  show (heldSl E K r i).known = true
  rw [heldSl_known] at h' ⊢
  have := of_decide_eq_true h'
  exact decide_eq_true (by omega)

theorem cnt_lt_prefix (k : Nat) : ∀ n, cnt (fun i => decide (i < k)) n = min k n := by
  intro n
  induction n with
  | zero => simp [cnt]
  | succ n ih =>
    rw [cnt, ih]
    by_cases h : n < k
    · rw [decide_eq_true h]; simp; omega
    · rw [decide_eq_false h]; simp; omega

theorem held_count (E : Hist) {K : Vec} {r : Nat} (hr : r < 3) (h9 : K r ≤ 9) : (held E K).count (r : Int) = K r := by
  unfold Pc.count
  rw [if_pos (by omega)]
  have : (fun i => (held E K (r : Int).toNat i).known) = fun i => decide (i < K r) := by
    funext i
    show (heldSl E K (r : Int).toNat i).known = _
    rw [heldSl_known]; simp
  rw [this, cnt_lt_prefix]
  omega

/-- A tame delta whose dots are within bounds is a piece like any other. -/
theorem GoodD.fine {E : Hist} {V U : Vec} {D : Pc} (h : GoodD E V U D) (hg : GoodE E U) : D.fine := by
  constructor
  · intro r i hr hi hf
    rcases h.tame r i with e | e | e
    · rw [e] at hf; cases hf
    · rw [e] at hf; cases hf
    · have hk : (D r i).known = true := by rw [e]; rfl
      have hg := hg r i (h.known hk)
      rw [e]
      exact ⟨rfl, hg.c0, hg.c1, hg.i0, hg.i1, hg.v0, hg.v1⟩
  · intro r i hr hi hf
    rcases h.tame r i with e | e | e
    · rw [e]; exact ⟨rfl, rfl, rfl⟩
    · rw [e]; exact ⟨rfl, rfl, rfl⟩
    · rw [e] at hf; cases hf

/-- Two that know nothing but the same. -/
theorem held_inj {E : Hist} {K U : Vec} (h : held E K = held E U) : K = U := by
  funext r
  rcases Nat.lt_trichotomy (K r) (U r) with h1 | h1 | h1
  · have e : heldSl E K r (K r) = heldSl E U r (K r) := congrFun (congrFun h r) (K r)
    have := congrArg Sl.known e
    rw [heldSl_known, heldSl_known, decide_eq_false (Nat.lt_irrefl _), decide_eq_true h1] at this
    cases this
  · exact h1
  · have e : heldSl E K r (U r) = heldSl E U r (U r) := congrFun (congrFun h r) (U r)
    have := congrArg Sl.known e
    rw [heldSl_known, heldSl_known, decide_eq_false (Nat.lt_irrefl (U r)), decide_eq_true h1] at this
    cases this

end Go.Proofs.YtalaldfgjgpacaaGreatDoor

namespace Go.Proofs.YtalaldfgjgpacaaGreatDoor
set_option linter.unusedVariables false
set_option linter.unusedSimpArgs false
open Go.RowKit
attribute [local go_sem ↓] Go.wp_at_zero Go.wp_at_succ

def Pc.entTo (p : Pc) : Nat → List UInt8
  | 0 => []
  | n + 1 => p.entTo n ++ p.textTo ((n / 4 : Nat) : Int) ((n % 4 : Nat) : Int) 27

theorem entTo_len (p : Pc) (n : Nat) : (p.entTo n).length ≤ 189 * n := by
  induction n with
  | zero => simp [Pc.entTo]
  | succ n ih => simp only [Pc.entTo, List.length_append]; have := textTo_len p ((n / 4 : Nat) : Int) ((n % 4 : Nat) : Int) 27; omega

theorem entTo_succ (p : Pc) (k m : Nat) (hm : m < 4) : p.entTo (k * 4 + (m + 1)) = p.entTo (k * 4 + m) ++ p.textTo (k : Int) (m : Int) 27 := by
  show p.entTo (k * 4 + m + 1) = _
  rw [Pc.entTo]
  have e1 : (k * 4 + m) / 4 = k := by omega
  have e2 : (k * 4 + m) % 4 = m := by omega
  rw [e1, e2]

set_option maxRecDepth 100000 in
set_option maxHeartbeats 1000000 in
theorem entriesText_any (p : Pc) (hp : p.ok) (w : World) :
    Calls Tryz.prog 36 #[.agg p.arr] w fun e w' => e = .returned (.string ⟨(p.entTo 12).toArray⟩) ∧ Blw w w' := by
  have HP := hid hp
  have HI := hid (show (Tryz.prog.info? 65).map (·.size) = some p.arr.size by rw [size63, Pc.size])
  clear hp
  go_enter Tryz.func36, Tryz.ntmps36
  go_wp2
  go_loopw [3, 4] (fun s r wr => ∃ k : Nat, k ≤ 3 ∧ r = .int .i64 k ∧ s = .string ⟨(p.entTo (k * 4)).toArray⟩ ∧ HasPc p w wr) (fun _ r _ => 3 - (intOf r).toNat)
  case atStart => exact ⟨0, by omega, rfl, rfl, HasPc.start p w⟩
  case round =>
    obtain ⟨k, hk, rfl, rfl, hJR⟩ := hrel
    by_cases hlt : k < 3
    · have hd : decide ((k : Int) < 3) = true := by simp; omega
      go_wp2
      go_loopw [3, 5] (fun s i wr => ∃ m : Nat, m ≤ 4 ∧ i = .int .i64 m ∧ s = .string ⟨(p.entTo (k * 4 + m)).toArray⟩ ∧ HasPc p w wr) (fun _ i _ => 4 - (intOf i).toNat)
      case atStart => exact ⟨0, by omega, rfl, rfl, hJR⟩
      case round =>
        clear hJR
        obtain ⟨m, hm, rfl, rfl, hJR⟩ := hrel
        by_cases hlm : m < 4
        · have H := hid hJR
          have hln := entTo_len p (k * 4 + m)
          have HS := hid (entTo_succ p k m hlm)
          generalize p.entTo (k * 4 + m) = tx at *
          have hg := hJR.1
          clear hJR
          go_wp2_with (first | (refine wpList_load_row (by rfl) 65 (.tmp 1) (by rfl) w.heap.size (by rfl) 65 p.arr (0, 0) _ hg Tryz.underlying65 rfl HI.out ?_))
          refine (itemText_any p HP.out k m _).mono ?_
          rintro e w2 ⟨rfl, hb⟩
          have H2 := hid (H.out.on hb)
          have tl := textTo_len p (k : Int) (m : Int) 27
          clear hb hg
          go_wp2
          go_roundw
          case rel => exact ⟨m + 1, by omega, by go_num, by rw [HS.out, bytes_app], H2.out⟩
          case measure => simp [intOf]; omega
        · have hm9 : m = 4 := by omega
          subst hm9
          go_wp2
          go_roundw
          case rel => exact ⟨k + 1, by omega, by go_num, by rw [show (k + 1) * 4 = k * 4 + 4 by omega], hJR⟩
          case measure => simp [intOf]; omega
    · have hk3 : k = 3 := by omega
      subst hk3
      go_wp2
      go_ret
      exact ⟨rfl, hJR.2.2⟩

set_option maxHeartbeats 400000 in
theorem isDot_yes (r n : Nat) (w : World) (hr : r < 3) (hn0 : 1 ≤ n) (hn : n ≤ 9) :
    Calls Tryz.prog 160 #[.int .i64 r, .int .i64 n] w fun e w' => e = .returned (.bool true) ∧ w' = w := by
  have h1 : decide ((0 : Int) ≤ (r : Int)) = true := by simp
  have h2 : decide ((r : Int) < 3) = true := by simp; omega
  have h3 : decide ((1 : Int) ≤ (n : Int)) = true := by simp; omega
  have h4 : decide ((n : Int) ≤ 9) = true := by simp; omega
  go_enter Tryz.func160, Tryz.ntmps160
  go_wp2
  go_ret
  exact ⟨rfl, rfl⟩

set_option maxHeartbeats 400000 in
theorem isEntry_yes (c it v : Int) (w : World) (hc0 : 0 ≤ c) (hc1 : c < 3) (hi0 : 0 ≤ it) (hi1 : it < 4) (hv0 : -99 ≤ v) (hv1 : v ≤ 99) :
    Calls Tryz.prog 161 #[.agg #[.int .i64 c, .int .i64 it, .int .i64 v]] w fun e w' => e = .returned (.bool true) ∧ Blw w w' := by
  have g1 : decide (c < 0) = false := by simp; omega
  have g2 : decide (3 ≤ c) = false := by simp; omega
  have g3 : decide (it < 0) = false := by simp; omega
  have g4 : decide (4 ≤ it) = false := by simp; omega
  have g5 : decide (-99 ≤ v) = true := by simp; omega
  have g6 : decide (v ≤ 99) = true := by simp; omega
  go_enter Tryz.func161, Tryz.ntmps161
  go_wp2
  go_ret
  exact ⟨rfl, (Blw.rfl _).al _⟩


/-- What a whole store over a new row leaves. -/
theorem hp_store {w : World} {b : Nat} {C : Array Value} {t : TypeId} (q : Pc) (h : w.heap[b]? = some (.cells C t)) (hC : C.size = 135) : (w.setCells b 0 q.cells).heap[b]? = some (.cells q.arr t) := by
  rw [heap_setCells_self _ h, splice_all _ _ (by rw [Pc.len]; omega)]; rfl

set_option maxRecDepth 100000 in
set_option maxHeartbeats 1000000 in
theorem withDot_any (p : Pc) (r n : Nat) (w : World) (hr : r < 3) (hn : n < 9) :
    Calls Tryz.prog 143 #[.agg p.arr, .int .i64 r, .int .i64 ((n : Int) + 1)] w fun e w' => e = .returned (.agg (p.put r n { p r n with known := true }).arr) ∧ Blw w w' := by
  obtain ⟨q, hq⟩ : ∃ q, q = p.put r n { p r n with known := true } := ⟨_, rfl⟩
  rw [← hq]
  have HQ := hid (show p.arr.setIfInBounds (r * 45 + n * 5) (.bool true) = q.arr by rw [hq]; exact set_known p r n hr hn)
  have HI := hid (show (Tryz.prog.info? 65).map (·.size) = some q.arr.size by rw [size63, Pc.size])
  have HI' := hid (show (Tryz.prog.info? 65).map (·.size) = some q.cells.length by rw [size63, Pc.len])
  clear hq
  have hk0 : (0 : Int) ≤ (r : Int) := Int.natCast_nonneg _
  have hk3 : (r : Int) < 3 := by omega
  have hc : p.arr[r * 45 + n * 5]? = some (.bool (p r n).known) := Pc.atRIK p r n 0 hr hn (by omega)
  go_enter Tryz.func143, Tryz.ntmps143
  go_wp2_with fail
  refine (isDot_yes r (n + 1) _ hr (by omega) (by omega)).mono ?_
  rintro e w2 ⟨rfl, rfl⟩
  go_upto_region 4 with fail
  rw [HQ.out]
  have hg : ((w.alloc (.cells q.arr 65)).alloc (.cells Tryz.zeroCells65 65)).heap[w.heap.size]? = some (.cells q.arr 65) := hp_old _ (by simp) (hp_new _ _)
  have hz : ((w.alloc (.cells q.arr 65)).alloc (.cells Tryz.zeroCells65 65)).heap[w.heap.size + 1]? = some (.cells Tryz.zeroCells65 65) := by simpa using hp_new (w.alloc (.cells q.arr 65)) (.cells Tryz.zeroCells65 65)
  go_wp2_with (first | (refine wpList_load_row (by rfl) 65 (.tmp 3) (by rfl) w.heap.size (by rfl) 65 q.arr (0, 0) _ hg Tryz.underlying65 rfl HI.out ?_) | (refine wpList_store_blk (by rfl) 65 (.tmp 6) (.tmp 19) (by rfl) (w.heap.size + 1) 0 q.cells (by rfl) (by rfl) Tryz.zeroCells65 65 hz (by rw [Pc.len, zsize63]; omega) HI'.out (Pc.one _) ?_))
  exact bodyPost_ret (results_cell_row rfl _ _ (w.heap.size + 1) 65 q.arr (0, 0) _ (by rfl) (hp_store q hz zsize63) Tryz.underlying65 rfl HI.out) rfl ⟨rfl, (((Blw.rfl _).al _).al _).scs _ _ _ (by omega)⟩

end Go.Proofs.YtalaldfgjgpacaaGreatDoor

namespace Go.Proofs.YtalaldfgjgpacaaGreatDoor
set_option linter.unusedVariables false
set_option linter.unusedSimpArgs false
open Go.RowKit
attribute [local go_sem ↓] Go.wp_at_zero Go.wp_at_succ

set_option maxRecDepth 100000 in
set_option maxHeartbeats 400000 in
theorem withEntry_any (p : Pc) (r n : Nat) (c it v : Int) (w : World) (hr : r < 3) (hn : n < 9) (hc0 : 0 ≤ c) (hc1 : c < 3) (hi0 : 0 ≤ it) (hi1 : it < 4) (hv0 : -99 ≤ v) (hv1 : v ≤ 99) :
    Calls Tryz.prog 139 #[.agg p.arr, .int .i64 r, .int .i64 ((n : Int) + 1), .agg #[.int .i64 c, .int .i64 it, .int .i64 v]] w fun e w' => e = .returned (.agg (p.put r n ⟨true, true, c, it, v⟩).arr) ∧ Blw w w' := by
  obtain ⟨q, hq⟩ : ∃ q, q = p.put r n ⟨true, true, c, it, v⟩ := ⟨_, rfl⟩
  rw [← hq]
  have HQ := hid (show splice p.arr (r * 45 + n * 5) (Sl.cells ⟨true, true, c, it, v⟩) = q.arr by rw [hq]; exact Pc.splice_slot p r n hr hn _)
  have HI := hid (show (Tryz.prog.info? 65).map (·.size) = some q.arr.size by rw [size63, Pc.size])
  have HI' := hid (show (Tryz.prog.info? 65).map (·.size) = some q.cells.length by rw [size63, Pc.len])
  clear hq
  have hk0 : (0 : Int) ≤ (r : Int) := Int.natCast_nonneg _
  have hk3 : (r : Int) < 3 := by omega
  have hn0 : (0 : Int) ≤ (n : Int) := Int.natCast_nonneg _
  have hn9 : (n : Int) < 9 := by omega
  have q0 : p.arr[r * 45 + n * 5]? = some (.bool (p r n).known) := Pc.atRIK p r n 0 hr hn (by omega)
  have q1 : p.arr[r * 45 + n * 5 + 1]? = some (.bool (p r n).filled) := Pc.atRIK p r n 1 hr hn (by omega)
  have q2 : p.arr[r * 45 + n * 5 + 2]? = some (.int .i64 (p r n).cart) := Pc.atRIK p r n 2 hr hn (by omega)
  have q3 : p.arr[r * 45 + n * 5 + 3]? = some (.int .i64 (p r n).item) := Pc.atRIK p r n 3 hr hn (by omega)
  have q4 : p.arr[r * 45 + n * 5 + 4]? = some (.int .i64 (p r n).value) := Pc.atRIK p r n 4 hr hn (by omega)
  go_enter Tryz.func139, Tryz.ntmps139
  go_wp2_with fail
  refine (isDot_yes r (n + 1) _ hr (by omega) (by omega)).mono ?_
  rintro e w2 ⟨rfl, rfl⟩
  go_wp2_with fail
  refine (isEntry_yes c it v _ hc0 hc1 hi0 hi1 hv0 hv1).mono ?_
  rintro e w2 ⟨rfl, b2⟩
  have g0 : w2.heap[w.heap.size]? = some (.cells p.arr 65) := (b2.bk _ (by simp; omega)).trans (hp_old _ (by simp; omega) (hp_old _ (by simp) (hp_new _ _)))
  have g1 : w2.heap[w.heap.size + 1]? = some (.cells #[.int .i64 c, .int .i64 it, .int .i64 v] 59) := (b2.bk _ (by simp)).trans (hp_old _ (by simp) (by simpa using hp_new (w.alloc (.cells p.arr 65)) _))
  have g2 : w2.heap[w.heap.size + 1 + 1]? = some (.cells Tryz.zeroCells65 65) := (b2.bk _ (by simp)).trans (by simpa using hp_new ((w.alloc (.cells p.arr 65)).alloc (.cells #[.int .i64 c, .int .i64 it, .int .i64 v] 59)) _)
  have hbw : Blw w w2 := ((((Blw.rfl _).al _).al _).al _).tr b2
  have G := hid (And.intro g0 (And.intro g1 (And.intro g2 hbw)))
  obtain ⟨p0, p1, p2, p3, p4⟩ := cells5 g0 r n hr hn
  have f0 := blk_frozen g0 (r * 45 + n * 5)
  have f1 := blk_frozen g0 (r * 45 + n * 5 + 1)
  have f2 := blk_frozen g0 (r * 45 + n * 5 + 2)
  have f3 := blk_frozen g0 (r * 45 + n * 5 + 3)
  have f4 := blk_frozen g0 (r * 45 + n * 5 + 4)
  have e0 : w2.cell? ⟨w.heap.size + 1, 0, none⟩ = some (.int .i64 c) := blk_cell g1 0
  have e1 : w2.cell? ⟨w.heap.size + 1, 1, none⟩ = some (.int .i64 it) := blk_cell g1 1
  have e2 : w2.cell? ⟨w.heap.size + 1, 2, none⟩ = some (.int .i64 v) := blk_cell g1 2
  clear b2 g0 g1 g2 hbw
  have hwr : IntKind.i64.wrap (n : Int) = n := by rw [IntKind.wrap_i64]; omega
  go_upto_region 5 with fail
  go_region
  go_upto_region 6 with fail
  obtain ⟨w3, hw3⟩ : ∃ w3, w3 = w2.setCells w.heap.size (r * 45 + n * 5) (Sl.cells ⟨true, true, c, it, v⟩) := ⟨_, rfl⟩
  have hg : w3.drew.heap[w.heap.size]? = some (.cells q.arr 65) := by
    show w3.heap[w.heap.size]? = _
    rw [hw3, heap_setCells_self _ G.out.1, HQ.out]
  have hz : w3.drew.heap[w.heap.size + 1 + 1]? = some (.cells Tryz.zeroCells65 65) := by
    show w3.heap[w.heap.size + 1 + 1]? = _
    rw [hw3, heap_setCells_ne _ (by omega)]; exact G.out.2.2.1
  have hb3 : Blw w w3.drew := by rw [hw3]; exact (G.out.2.2.2.scs _ _ _ (by omega)).dr
  have hw4 : (((((w2.setCell ⟨w.heap.size, r * 45 + n * 5, none⟩ (.bool true)).setCell ⟨w.heap.size, r * 45 + n * 5 + 1, none⟩ (.bool true)).setCell ⟨w.heap.size, r * 45 + n * 5 + 2, none⟩ (.int .i64 c)).setCell ⟨w.heap.size, r * 45 + n * 5 + 3, none⟩ (.int .i64 it)).setCell ⟨w.heap.size, r * 45 + n * 5 + 4, none⟩ (.int .i64 v)) = w3 := by rw [hw3]; rfl
  rw [hw4]
  clear hw4 hw3 p0 p1 p2 p3 p4 f0 f1 f2 f3 f4 e0 e1 e2 q0 q1 q2 q3 q4
  go_wp2_with (first | (refine wpList_load_row (by rfl) 65 (.tmp 4) (by rfl) w.heap.size (by rfl) 65 q.arr (0, 0) _ hg Tryz.underlying65 rfl HI.out ?_) | (refine wpList_store_blk (by rfl) 65 (.tmp 8) (.tmp 26) (by rfl) (w.heap.size + 1 + 1) 0 q.cells (by rfl) (by rfl) Tryz.zeroCells65 65 hz (by rw [Pc.len, zsize63]; omega) HI'.out (Pc.one _) ?_))
  exact bodyPost_ret (results_cell_row rfl _ _ (w.heap.size + 1 + 1) 65 q.arr (0, 0) _ (by rfl) (hp_store q hz zsize63) Tryz.underlying65 rfl HI.out) rfl ⟨rfl, hb3.scs _ _ _ (by omega)⟩
end Go.Proofs.YtalaldfgjgpacaaGreatDoor

namespace Go.Proofs.YtalaldfgjgpacaaGreatDoor
set_option linter.unusedVariables false
set_option linter.unusedSimpArgs false
open Go.RowKit

theorem nodup_le {α : Type} [BEq α] [LawfulBEq α] : ∀ (l m : List α), l.Nodup → (∀ x ∈ l, x ∈ m) → l.length ≤ m.length := by
  intro l
  induction l with
  | nil => intro m _ _; simp
  | cons x l ih =>
    intro m hn hs
    rw [List.nodup_cons] at hn
    have hx := hs x List.mem_cons_self
    have := ih (m.erase x) hn.2 (fun y hy => by
      rw [List.mem_erase_of_ne (fun e => hn.1 (by rw [← e]; exact hy))]
      exact hs y (List.mem_cons_of_mem _ hy))
    rw [List.length_erase_of_mem hx] at this
    have hp : 0 < m.length := List.length_pos_of_mem hx
    simp only [List.length_cons]; omega

theorem dlTo_len (p : Pc) (n : Nat) : (p.dlTo n).length ≤ n := by
  induction n with
  | zero => simp [Pc.dlTo]
  | succ n ih => rw [Pc.dlTo, List.length_append]; split <;> simp <;> omega

theorem RelP.lenD {p : Pc} {D E : List Bs} (h : RelP p D E) (hp : p.ok) : D.length ≤ 27 := by rw [h.eqD hp]; exact dlTo_len p 27

theorem RelP.lenE {p : Pc} {D E : List Bs} (h : RelP p D E) (hp : p.ok) : E.length ≤ 27 := by
  have h1 : (E.map dotOf).Nodup := List.pairwise_map.2 (h.ents_dots hp)
  have h2 := nodup_le (E.map dotOf) D h1 (fun x hx => by
    obtain ⟨e, he, rfl⟩ := List.mem_map.1 hx
    obtain ⟨r, i, hr, hi, hf, rfl⟩ := (h.me _).1 he
    exact (h.md _).2 ⟨r, i, hr, hi, (hp r i hr hi hf).1, rfl⟩)
  rw [List.length_map] at h2
  have := h.lenD hp; omega

theorem RelP.e7 {p : Pc} {D E : List Bs} (h : RelP p D E) : ∀ x ∈ E, x.length = 7 := fun x hx => by
  obtain ⟨r, i, _, _, _, rfl⟩ := (h.me _).1 hx; rfl
theorem RelP.d2 {p : Pc} {D E : List Bs} (h : RelP p D E) : ∀ x ∈ D, ∃ c0 c1 : UInt8, x = [c0, c1] ∧ 48 ≤ c0.toNat := fun x hx => by
  obtain ⟨r, i, hr, _, _, rfl⟩ := (h.md _).1 hx
  exact ⟨_, _, rfl, by rw [dig_toNat r (by omega)]; omega⟩

theorem elAll_flat (p : Pc) (n : Nat) : (p.elAll n).flatten = p.entTo n := by
  induction n with
  | zero => rfl
  | succ n ih => rw [Pc.elAll, Pc.entTo, List.flatten_append, ih, textTo_flat]

theorem flat_len (E : List Bs) (m : Nat) (h : ∀ x ∈ E, x.length = m) : E.flatten.length = m * E.length := by
  induction E with
  | nil => simp
  | cons x E ih =>
    rw [List.flatten_cons, List.length_append, ih (fun y hy => h y (List.mem_cons_of_mem _ hy)), h x List.mem_cons_self, List.length_cons, Nat.mul_succ]; omega

/-- A piece as text. -/
def Pc.text (p : Pc) : Bs := p.dtTo 27 ++ [59] ++ p.entTo 12

theorem entTo_len' (p : Pc) (hp : p.ok) : (p.entTo 12).length ≤ 189 := by
  have h := rel_lists p hp
  rw [← elAll_flat, flat_len _ 7 h.e7]
  have := h.lenE hp; omega
theorem text_len' (p : Pc) (hp : p.ok) : p.text.length ≤ 244 := by
  have h1 := entTo_len' p hp
  have h2 := dtTo_len p 27
  simp only [Pc.text, List.length_append, List.length_singleton]; omega

theorem RelP.write {p : Pc} {D E : List Bs} (h : RelP p D E) (hp : p.ok) : writeL D E = p.text := by
  unfold writeL Pc.text
  rw [h.eqD hp, h.eqE hp, dtTo_flat, elAll_flat]

theorem RelP.ents {p : Pc} {D E : List Bs} (h : RelP p D E) (hp : p.ok) : E.flatten = p.entTo 12 := by rw [h.eqE hp, elAll_flat]

/-- A frame. -/
def frameL (l : Bs) : Bs := lastD l.length 3 ++ l
theorem frameL_len (l : Bs) : (frameL l).length = 3 + l.length := by simp [frameL, lastD_len]
theorem three_last (d : Nat) (h : d < 1000) : [dig (d / 100), dig (d / 10 % 10), dig (d % 10)] = lastD d 3 := by
  simp only [lastD, Nat.pow_zero, Nat.div_one, Nat.pow_one]
  have : d / 10 ^ 2 % 10 = d / 100 := by simp; omega
  rw [this]

end Go.Proofs.YtalaldfgjgpacaaGreatDoor

namespace Go.Proofs.YtalaldfgjgpacaaGreatDoor
set_option linter.unusedVariables false
set_option linter.unusedSimpArgs false
open Go.RowKit
variable {xt : Ext}
attribute [local go_sem ↓] Go.wp_at_zero Go.wp_at_succ

theorem count_cells (p : Pc) (r : Int) (w : World) :
    Calls Tryz.prog 82 #[.agg p.cells.toArray, .int .i64 r] w fun e w' => e = .returned (.int .i64 (p.count r)) ∧ Blw w w' := count_any p r w

theorem lt_of_blk {w : World} {b : Nat} {o : Obj} (h : w.heap[b]? = some o) : b < w.heap.size := by
  rcases Nat.lt_or_ge b w.heap.size with hb | hb
  · exact hb
  · rw [Array.getElem?_eq_none hb] at h; cases h

set_option maxRecDepth 100000 in
set_option maxHeartbeats 1000000 in
theorem counts_any (b me n : Nat) (p : Pc) (w : World) (hn : n ≤ 3) (h : w.heap[b]? = some (.cells (repArr me n p xt) 69)) :
    Calls Tryz.prog 35 #[.pointer (some ⟨b, 0, none⟩)] w fun e w' => e = .returned (.string ⟨(p.digsTo n).toArray⟩) ∧ Blw w w' := by
  have hbl := lt_of_blk h
  have HI := hid (show (Tryz.prog.info? 65).map (·.size) = some p.cells.length by rw [size63, Pc.len])
  have H0 := hid h
  clear h
  go_enter Tryz.func35, Tryz.ntmps35
  go_wp2
  go_loopw [3, 4] (fun s r wr => ∃ k : Nat, k ≤ n ∧ r = .int .i64 k ∧ s = .string ⟨(p.digsTo k).toArray⟩ ∧ Blw w wr) (fun _ r _ => n - (intOf r).toNat)
  case atStart => exact ⟨0, by omega, rfl, rfl, Blw.rfl _⟩
  case round =>
    obtain ⟨k, hk, rfl, rfl, hb⟩ := hrel
    have H := hid hb
    have hr := (hb.bk b hbl).trans H0.out
    have hcn := rep_n hr
    have hrg := rep_range hr
    have hln := digsTo_len p k
    have HS : Hid (p.digsTo (k + 1) = p.digsTo k ++ [dig (p.count (k : Int))]) := rfl
    clear hb hr
    by_cases hlt : k < n
    · generalize p.digsTo k = tx at *
      have hcnt := Pc.count_le p (k : Int)
      go_wp2_with (first | (refine wpList_load_mid (by rfl) 65 (.tmp 16) (by rfl) b 2 (by rfl) p.cells _ hrg Tryz.underlying65 rfl HI.out ?_))
      refine (count_cells p k _).mono ?_
      rintro e w1 ⟨rfl, b1⟩
      have H1 := hid (H.out.tr b1)
      clear b1 hcn hrg
      obtain ⟨d, hd⟩ : ∃ d, d = p.count (k : Int) := ⟨_, rfl⟩
      rw [← hd] at hcnt
      rw [← hd]
      have HD := hid hd
      clear hd
      go_wp2_with fail
      refine (itoa_digit d (by omega) _).mono ?_
      rintro e w2 ⟨rfl, rfl⟩
      go_wp2
      go_roundw
      case rel => exact ⟨k + 1, by omega, by go_num, by rw [HS.out, ← HD.out, bytes_app], H1.out⟩
      case measure => simp [intOf]; omega
    · have hkn : k = n := by omega
      subst hkn
      go_wp2
      go_ret
      exact ⟨rfl, H.out⟩

/-- The token's bytes, one by one. -/
def digsIn (l : List UInt8) : Nat → Bool
  | 0 => true
  | k + 1 => digsIn l k && isDigB (l.getD k 0)

theorem digsIn_all (l : List UInt8) : ∀ k, k ≤ l.length → digsIn l k = (l.take k).all isDigB := by
  intro k
  induction k with
  | zero => intro _; rfl
  | succ k ih =>
    intro hk
    rw [digsIn, ih (by omega), List.take_succ_eq_append_getElem (by omega), List.all_append]
    simp [List.getD, List.getElem?_eq_getElem (show k < l.length by omega)]

set_option maxRecDepth 100000 in
set_option maxHeartbeats 1000000 in
theorem isToken_any (b me n : Nat) (p : Pc) (s : ByteArray) (w : World) (hs : s.size ≤ maxLen) (h : w.heap[b]? = some (.cells (repArr me n p xt) 69)) :
    Calls Tryz.prog 144 #[.pointer (some ⟨b, 0, none⟩), .string s] w fun e w' => e = .returned (.bool (isTok n s.data.toList)) ∧ w' = w := by
  unfold maxLen at hs
  have hcn := rep_n h
  have hsz : s.data.toList.length = s.size := Array.length_toList
  obtain ⟨t, ht⟩ : ∃ t, t = isTok n s.data.toList := ⟨_, rfl⟩
  rw [← ht]
  have HT := hid ht
  clear ht h
  by_cases hl : s.size = n
  · have hl1 : ((s.size : Int) != (n : Int)) = false := by simp; omega
    have HL := hid hl
    clear hl
    have HZ := hid hsz
    clear hsz
    go_enter Tryz.func144, Tryz.ntmps144
    go_wp2
    go_loop [5] (fun i => ∃ k : Nat, k ≤ s.size ∧ i = .int .i64 k ∧ digsIn s.data.toList k = true) (fun i => s.size - (intOf i).toNat)
    case atStart => exact ⟨0, by omega, rfl, rfl⟩
    case round =>
      obtain ⟨k, hk, rfl, hdg⟩ := hrel
      have HDG := hid hdg
      clear hdg
      by_cases hlt : k < s.size
      · have HE : Hid (s.data.toList.getD k 0 = s[k]) := by
          show s.data.toList.getD k 0 = s[k]
          simp [List.getD, List.getElem?_eq_getElem (show k < s.data.toList.length by rw [HZ.out]; exact hlt)]
          rfl
        have HN : ∀ x : Bool, isDigB s[k] = x → Hid (digsIn s.data.toList (k + 1) = x) := fun x hx => by
          show digsIn s.data.toList (k + 1) = x
          rw [digsIn, HDG.out, HE.out, hx]; rfl
        have HB : Hid (isDigB s[k] = decide (48 ≤ (s[k].toNat : Int) ∧ (s[k].toNat : Int) ≤ 57)) := by
          show isDigB s[k] = _
          unfold isDigB
          rw [Bool.eq_iff_iff]; simp [UInt8.le_iff_toNat_le]; omega
        have HNO : isDigB s[k] = false → Hid (t = false) := fun hx => by
          show t = false
          have h1 : digsIn s.data.toList (k + 1) = false := (HN _ hx)
          rw [HT.out, isTok]
          cases hall : s.data.toList.all isDigB with
          | false => simp
          | true =>
            exfalso
            rw [digsIn_all _ _ (by rw [HZ.out]; omega)] at h1
            rw [List.all_eq_false] at h1
            obtain ⟨x, hx1, hx2⟩ := h1
            exact hx2 ((List.all_eq_true.1 hall) x (List.mem_of_mem_take hx1))
        by_cases h1 : (s[k].toNat : Int) < 48
        · have HF := HNO (by rw [HB.out]; simp; omega)
          clear HN HNO
          go_wp2
          go_ret
          exact ⟨by rw [HF.out]; rfl, rfl⟩
        · have h1' : decide ((s[k].toNat : Int) < 48) = false := by simpa using h1
          by_cases h2 : (57 : Int) < (s[k].toNat : Int)
          · have HF := HNO (by rw [HB.out]; simp; omega)
            clear HN HNO
            go_wp2
            go_ret
            exact ⟨by rw [HF.out]; rfl, rfl⟩
          · have h2' : decide ((57 : Int) < (s[k].toNat : Int)) = false := by simpa using h2
            have HG := HN true (by rw [HB.out]; simp; omega)
            clear HN HNO
            go_wp2
            go_round
            case rel => exact ⟨k + 1, by omega, by go_num, HG.out⟩
            case measure => simp [intOf]; omega
      · have hkn : k = s.size := by omega
        subst hkn
        have HF : Hid (t = true) := by
          show t = true
          have h1 := HDG.out
          rw [digsIn_all _ _ (by rw [HZ.out]; omega), List.take_of_length_le (by rw [HZ.out]; omega)] at h1
          rw [HT.out, isTok, h1, HZ.out, HL.out]; simp
        go_wp2
        go_ret
        exact ⟨by rw [HF.out]; rfl, rfl⟩
  · have hl1 : ((s.size : Int) != (n : Int)) = true := by simp; omega
    have HF : Hid (t = false) := by rw [HT.out]; simp [isTok, hsz, hl]; exact trivial
    clear hl
    go_enter Tryz.func144, Tryz.ntmps144
    go_wp2
    go_ret
    exact ⟨by rw [HF.out]; rfl, rfl⟩
end Go.Proofs.YtalaldfgjgpacaaGreatDoor
