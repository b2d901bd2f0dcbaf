import Derived.Test.YtalaldfgjgpacaaGreatDoorK1
import Derived.Test.YtalaldfgjgpacaaGreatDoorP10
import Derived.Test.YtalaldfgjgpacaaGreatDoorTE
import Derived.Deep.RegionWith
import Derived.Deep.RegionHeld3
namespace Go.Proofs.YtalaldfgjgpacaaGreatDoor
set_option linter.unusedVariables false
set_option linter.unusedSimpArgs false
open Go.RowKit
attribute [local go_sem ↓] Go.wp_at_zero Go.wp_at_succ run_load63 run_store63
attribute [local go_sem] blkOf_mk offOf_mk isPt_mk isRow_pc Has_drew HasW_drew rowOf_drew HasW_new Has_alloc rowOf_alloc isRow_zero63

set_option maxRecDepth 100000 in
set_option maxHeartbeats 4000000 in
theorem take_short (b : Nat) (s : ByteArray) (w : World) (hs : s.size ≤ maxLen) (h : s.size < 5 ∨ 300 < s.size) :
    Calls Tryz.prog 18 #[.pointer (some ⟨b, 0, none⟩), .string s] w fun e w' => e = .returned (.tuple #[.string ⟨([] : Bs).toArray⟩, .int .i64 5]) ∧ Blw w w' := by
  have HM := hid (fun wx => readMsg_short s wx hs h)
  unfold headArr at HM
  clear hs h
  go_enter Tryz.func18, Tryz.ntmps18
  go_wp2_with fail
  refine (HM.out _).mono ?_
  rintro e w1 ⟨rfl, b1⟩
  obtain ⟨k1, k2, k3, k4⟩ := two_boxes w1 (.string ⟨#[]⟩) (.int .i64 0) (.int .i64 0) (.int .i64 0) Pc.empty
  have K3 := hid (b1.tr k3)
  clear k1 k2 k3 b1
  have k5 : HasW ((w1.alloc (.cells #[.string ⟨[].toArray⟩, .int .i64 ((0 : Nat) : Int), .int .i64 ((0 : Nat) : Int), .int .i64 ((0 : Nat) : Int)] 71)).alloc (.cells Tryz.zeroCells65 65)) (w1.heap.size + 1) 0 := k4
  go_wp2
  go_ret2
  exact ⟨rfl, K3.out⟩

set_option maxRecDepth 100000 in
set_option maxHeartbeats 4000000 in
theorem rtake_short (cb : Nat) (s : ByteArray) (w : World) (hs : s.size ≤ maxLen) (h : s.size < 5 ∨ 300 < s.size) :
    Calls Tryz.prog 55 #[.pointer (some ⟨cb, 0, none⟩), .string s] w fun e w' => e = .returned (.tuple #[.string ⟨([] : Bs).toArray⟩, .int .i64 5]) ∧ w' = w := by
  unfold maxLen at hs
  rcases h with h | h
  · go_enter Tryz.func55, Tryz.ntmps55
    go_wp2
    go_ret2
    exact ⟨rfl, rfl⟩
  · have h5 : ¬ s.size < 5 := by omega
    go_enter Tryz.func55, Tryz.ntmps55
    go_wp2
    go_ret2
    exact ⟨rfl, rfl⟩

theorem spec_ex (ok fm : Bool) (ce : Int) (nw : Bool) (q p : Pc) (x : Ext) (a0 : Bs) : ∃ er an p' x', TakeSpec ok fm ce nw q p x a0 er an p' x' ∧ ((p' = p ∧ x' = x) ∨ (p' = p.join q ∧ x' = x.next q ∧ ok = true ∧ ce = 0 ∧ nw = true)) ∧ (an = [] ∨ an = a0) := by
  cases ok
  · exact ⟨5, [], p, x, ⟨fun _ => ⟨rfl, rfl, rfl, rfl⟩, fun h => by simp at h, fun h => by simp at h, fun h => by simp at h, fun h => by simp at h⟩, .inl ⟨rfl, rfl⟩, .inl rfl⟩
  · cases fm
    · exact ⟨6, [], p, x, ⟨fun h => by simp at h, fun _ _ => ⟨rfl, rfl, rfl, rfl⟩, fun _ h => by simp at h, fun _ h => by simp at h, fun _ h => by simp at h⟩, .inl ⟨rfl, rfl⟩, .inl rfl⟩
    · by_cases hc : ce = 0
      · cases nw
        · exact ⟨0, a0, p, x, ⟨fun h => by simp at h, fun _ h => by simp at h, fun _ _ h => absurd hc h, fun _ _ _ _ => ⟨rfl, rfl, rfl, rfl⟩, fun _ _ _ h => by simp at h⟩, .inl ⟨rfl, rfl⟩, .inr rfl⟩
        · exact ⟨0, a0, p.join q, x.next q, ⟨fun h => by simp at h, fun _ h => by simp at h, fun _ _ h => absurd hc h, fun _ _ _ h => by simp at h, fun _ _ _ _ => ⟨rfl, rfl, rfl, rfl⟩⟩, .inr ⟨rfl, rfl, rfl, hc, rfl⟩, .inr rfl⟩
      · exact ⟨ce, [], p, x, ⟨fun h => by simp at h, fun _ h => by simp at h, fun _ _ _ => ⟨rfl, rfl, rfl, rfl⟩, fun _ _ h => absurd h hc, fun _ _ h => absurd h hc⟩, .inl ⟨rfl, rfl⟩, .inl rfl⟩

/-- Both replicas' Take of one message. -/
structure TakeBoth (b cb me n : Nat) (p : Pc) (x : Ext) (lt : Value) (s : ByteArray) (tk : Bs) (er : Int) (p' : Pc) (x' : Ext) : Prop where
  prog : ∀ w, w.heap[b]? = some (.cells (repArr me n p x) 69) → Tab Tryz.prog w → Calls Tryz.prog 18 #[.pointer (some ⟨b, 0, none⟩), .string s] w fun e w' => e = .returned (.tuple #[.string ⟨tk.toArray⟩, .int .i64 er]) ∧ RepTo b me n p' x' w w'
  ref : ∀ w, RefAt w cb me n p x lt → Calls Tryz.prog 55 #[.pointer (some ⟨cb, 0, none⟩), .string s] w fun e w' => e = .returned (.tuple #[.string ⟨tk.toArray⟩, .int .i64 er]) ∧ RefStep cb me n p' x' lt w w'
  fine : p'.fine
  hole : p'.noHole
  had : x'.had ≤ x.had + 1
  log : x'.log.length ≤ x.log.length + 400
  tkl : tk.length ≤ 5
  sz : Fit p x → Fit p' x'

theorem five_of (l : Bs) (h : 5 ≤ l.length) : ∃ c0 c1 c2 c3 c4 t, l = c0 :: c1 :: c2 :: c3 :: c4 :: t := by
  match l, h with
  | c0 :: c1 :: c2 :: c3 :: c4 :: t, _ => exact ⟨c0, c1, c2, c3, c4, t, rfl⟩

theorem take_both (b cb me n : Nat) (p : Pc) (x : Ext) (lt : Value) (s : ByteArray) (hn : n ≤ 3) (hme : me < n) (hs : s.size ≤ maxLen) (hp : p.fine) (hh : p.noHole) (hx : x.small) : ∃ tk er p' x', TakeBoth b cb me n p x lt s tk er p' x' := by
  by_cases hsh : s.size < 5 ∨ 300 < s.size
  · refine ⟨[], 5, p, x, ⟨fun w hb ht => ?_, fun w hr => ?_, hp, hh, by omega, by omega, by simp, id⟩⟩
    · refine (take_short b s w hs hsh).mono ?_
      rintro e w' ⟨he, hb'⟩
      exact ⟨he, hb'.bk' hb, hb'.bx b⟩
    · refine (rtake_short cb s w hs hsh).mono ?_
      rintro e w' ⟨he, rfl⟩
      exact ⟨he, RefStep.same hr (Blw.rfl _)⟩
  · obtain ⟨l, hl⟩ : ∃ l : Bs, s = ⟨l.toArray⟩ := ⟨s.data.toList, (bs_eta s).symm⟩
    have hll : 5 ≤ l.length ∧ l.length ≤ 300 := by rw [hl, bs_size] at hsh; omega
    obtain ⟨c0, c1, c2, c3, c4, t, rfl⟩ := five_of l hll.1
    have ht : t.length ≤ 295 := by have := hll.2; simp at this; omega
    obtain ⟨ok, hok⟩ : ∃ ok, ok = (hdOk c1 c2 c3 c4 && ((([c0] == [(73 : UInt8)]) || ([c0] == [(70 : UInt8)])) && readOk t)) := ⟨_, rfl⟩
    obtain ⟨er, an, p', x', hS, hcase, han⟩ := spec_ex ok (forMe me n (c1.toNat - 48) (c2.toNat - 48)) (checkE n p (readP t)) (decide (p.dots < (p.join (readP t)).dots)) (readP t) p x [65, dig me, dig (c1.toNat - 48), dig (((c3.toNat - 48) * 10 + (c4.toNat - 48)) / 10), dig (((c3.toNat - 48) * 10 + (c4.toNat - 48)) % 10)]
    have hP := fun w hb ht' => take_any b me n p x c0 c1 c2 c3 c4 t ok er an p' x' w ht hn hme hx ht' hb hok hS
    have hR := fun w hr => rtake_any cb me n p x lt c0 c1 c2 c3 c4 t ok er an p' x' w ht hn hx hr hp hok hS
    have hal : an.length ≤ 5 := by rcases han with e | e <;> rw [e] <;> simp
    rw [hl]
    rcases hcase with ⟨e1, e2⟩ | ⟨e1, e2, e3, e4, e5⟩
    · subst e1 e2
      exact ⟨an, er, _, _, ⟨hP, hR, hp, hh, by omega, by omega, hal, id⟩⟩
    · have hro : readOk t = true := by
        rw [e3] at hok
        have := hok.symm
        simp only [Bool.and_eq_true] at this
        exact this.2.2
      have hf := (readP_fine hro).1
      have hfit : fitsB n p (readP t) = true := by rw [checkE_fits, e4]; rfl
      have hlt : p.dots < (p.join (readP t)).dots := by simpa using e5
      obtain ⟨k1, k2⟩ := ext_next_len x (readP t) hf.ok
      subst e1 e2
      exact ⟨an, er, _, _, ⟨hP, hR, join_fine hp hf, fits_hole hfit, k1, k2, hal, fun h => ⟨by have := h.1; show x.had + 1 ≤ _; omega, fun r => by have := h.2 r; show x.ack r ≤ x.had + 1; omega⟩⟩⟩

set_option maxRecDepth 100000 in
set_option maxHeartbeats 4000000 in
theorem other11 (base B : Nat) (d : PD) (r t a bb c : Int) (s : ByteArray) (w : World) (h : PairAt base B w d) (hbs : base ≤ w.heap.size) (hB : B ≤ 100000000) (hs : s.size ≤ maxLen) (ht : Tab Tryz.prog w) :
    Calls Tryz.prog 23 #[.pointer (some ⟨d.pb, 0, none⟩), .agg (opArr 11 r t a bb c s)] w fun e w' => e = .returned (.bool true) ∧ PStep base (B + 1) d w w' := by
  have hsm : d.x.small := ⟨by have := h.had; omega, by have := h.log; omega⟩
  obtain ⟨tk, er, p', x', K⟩ := take_both d.b d.cb d.me d.n d.p d.x d.lt s h.n h.me hs h.fine h.hole hsm
  have H := hid h
  have KK := hid K
  have TB := hid ht
  have BX : Hid (Blw w (w.alloc (.cells (opArr 11 r t a bb c s) 46))) := (Blw.rfl _).al _
  have HW := hid (hp_new w (.cells (opArr 11 r t a bb c s) 46))
  have S0 := hid (Sees.of (BX.out.bk' h.pb) HW.out)
  have tkl := K.tkl
  clear h K ht hs hsm
  unfold opArr at *
  go_enter Tryz.func23, Tryz.ntmps23
  go_wp2_with fail
  go_cut [9, 10] (fun s1 s2 w' => s1 = .string ⟨tk.toArray⟩ ∧ s2 = .int .i64 er ∧ w'.heap[w.heap.size]? = some (.cells #[.int .i64 11, .int .i64 r, .int .i64 t, .int .i64 a, .int .i64 bb, .int .i64 c, .string s] 46) ∧ w'.heap[d.pb]? = some (.cells #[.pointer (some ⟨d.b, 0, none⟩), .pointer (some ⟨d.cb, 0, none⟩)] 52) ∧ ∃ w1, Blw w w1 ∧ RepTo d.b d.me d.n p' x' w1 w')
  case first =>
    go_region_held3 (fun w' => w'.cell? ⟨d.pb, 0, none⟩ = some (.pointer (some ⟨d.b, 0, none⟩)) ∧ w'.cell? ⟨d.pb, 1, none⟩ = some (.pointer (some ⟨d.cb, 0, none⟩)) ∧ w'.cell? ⟨w.heap.size, 3, none⟩ = some (.int .i64 a) ∧ w'.cell? ⟨w.heap.size, 4, none⟩ = some (.int .i64 bb) ∧ w'.cell? ⟨w.heap.size, 5, none⟩ = some (.int .i64 c) ∧ w'.cell? ⟨w.heap.size, 6, none⟩ = some (.string s)) (first | exact S1.out | exact S0.out)
      (first | (go_at_call 18; refine (KK.out.prog _ ((BX.out.dr).bk' H.out.b) (TB.out.blw BX.out.dr)).mono ?_; rintro e w2 ⟨rfl, r2⟩; have Z2 := hid (seen_rep H.out (show (w.alloc _).drew.heap[w.heap.size]? = _ from HW.out) BX.out.dr r2); have S1 := hid (Sees.of Z2.out.1 Z2.out.2); have R2 := hid r2; clear r2))
    all_goals
      go_wp2_with fail
      go_meet
      case rel => exact ⟨rfl, rfl, Z2.out.2, Z2.out.1, _, BX.out.dr, R2.out⟩
  case rest =>
    obtain ⟨rfl, rfl, g1, g2, w1, g3, g4⟩ := hcut
    have G4 := hid g4
    have G3 := hid g3
    have S2 := hid (Sees.of g2 g1)
    have HR := hid (ref_on_rep H.out g3 g4)
    have Z1 := hid (And.intro g2 g1)
    clear g1 g2 g3 g4
    go_wp2_with fail
    go_cut [11, 12] (fun s1 s2 w' => s1 = .string ⟨tk.toArray⟩ ∧ s2 = .int .i64 er ∧ ∃ w2, Blw wc w2 ∧ RefStep d.cb d.me d.n p' x' d.lt w2 w')
    case first =>
      go_region_held3 (fun w' => w'.cell? ⟨d.pb, 0, none⟩ = some (.pointer (some ⟨d.b, 0, none⟩)) ∧ w'.cell? ⟨d.pb, 1, none⟩ = some (.pointer (some ⟨d.cb, 0, none⟩)) ∧ w'.cell? ⟨w.heap.size, 3, none⟩ = some (.int .i64 a) ∧ w'.cell? ⟨w.heap.size, 4, none⟩ = some (.int .i64 bb) ∧ w'.cell? ⟨w.heap.size, 5, none⟩ = some (.int .i64 c) ∧ w'.cell? ⟨w.heap.size, 6, none⟩ = some (.string s)) (first | exact S3.out | exact S2.out)
        (first | (go_at_call 55; refine (KK.out.ref _ (HR.out.on (Blw.dr (Blw.rfl _)))).mono ?_; rintro e w4 ⟨rfl, r4⟩; have S3 := hid (Sees.ref H.out Z1.out.1 Z1.out.2 (Blw.dr (Blw.rfl _)) r4); have R4 := hid r4; clear r4))
      all_goals
        go_wp2_with fail
        go_meet
        case rel => exact ⟨rfl, rfl, _, Blw.dr (Blw.rfl _), R4.out⟩
    case rest =>
      obtain ⟨rfl, rfl, w2, g5, g6⟩ := hcut
      have FN := hid (pstep_of2 H.out hbs KK.out.fine KK.out.hole KK.out.had KK.out.log KK.out.sz G3.out G4.out (g6.pre g5))
      have htt : (tk == tk) = true := by simp
      have hee : (er == er) = true := by simp
      clear g5 g6
      go_wp2_with fail
      refine (num_any er _).mono ?_
      rintro e w5 ⟨rfl, hw5⟩
      subst w5
      go_wp2
      go_ret
      exact ⟨rfl, FN.out⟩

theorem does11 : Does 11 where
  client o h3 h7 h6 base B d w h hb hB hs ht := does10.client o h3 h7 (by omega) base B d w h hb hB hs ht
  other o h1 n1 n10 n37 h6 base B d w h hb hB hs ht := by
    by_cases hk : o.kind ≤ 10
    · exact does10.other o h1 n1 n10 n37 hk base B d w h hb hB hs ht
    · obtain ⟨kd, r, t, a, b, c, s⟩ := o
      simp only at h1 n1 n10 n37 h6 hk hs
      have : kd = 11 := by omega
      subst this
      exact other11 base B d r t a b c s w h hb hB hs ht
  begin o hk h6 base B w hb hB hs ht := does10.begin o hk (by rcases hk with e | e <;> omega) base B w hb hB hs ht
end Go.Proofs.YtalaldfgjgpacaaGreatDoor
