import Derived.Test.YtalaldfgjgpacaaGreatDoorTF
import Derived.Test.YtalaldfgjgpacaaGreatDoorUC
import Derived.Test.YtalaldfgjgpacaaGreatDoorUD
import Derived.Deep.RegionHeld3
namespace Go.Proofs.YtalaldfgjgpacaaGreatDoor
set_option linter.unusedVariables false
set_option linter.unusedSimpArgs false
open Go.RowKit
attribute [local go_sem ↓] Go.wp_at_zero Go.wp_at_succ

/-- Both replicas' Ship. -/
structure ShipBoth (b cb me n : Nat) (p : Pc) (x : Ext) (lt : Value) (a : Int) (tk : Bs) (er : Int) : Prop where
  prog : ∀ w, w.heap[b]? = some (.cells (repArr me n p x) 69) → Calls Tryz.prog 56 #[.pointer (some ⟨b, 0, none⟩), .int .i64 a] w fun e w' => e = .returned (.tuple #[.string ⟨tk.toArray⟩, .int .i64 er]) ∧ Blw w w'
  ref : ∀ w, RefAt w cb me n p x lt → Calls Tryz.prog 57 #[.pointer (some ⟨cb, 0, none⟩), .int .i64 a] w fun e w' => e = .returned (.tuple #[.string ⟨tk.toArray⟩, .int .i64 er]) ∧ Blw w w'
  tkl : tk.length ≤ 1000

theorem ship_both (b cb me n : Nat) (p : Pc) (x : Ext) (lt : Value) (a : Int) (hn : n ≤ 3) (hme : me < n) (hp : p.fine) (hf : Fit p x) (hl : ∀ c, c ≤ x.kept → (tailJ x.late c 0).fine) : ∃ tk er, ShipBoth b cb me n p x lt a tk er := by
  have hh : x.had < 100 := by have := hf.1; have := size_le27 p; omega
  cases ho : isOth me n a
  · refine ⟨[], 1, ⟨fun w hb => ship_no b me n a p x w ho hb, fun w hr => ?_, by simp⟩⟩
    obtain ⟨a', b', ac, D, E, ln, ls, h1, _⟩ := hr.h
    refine (rship_no cb me n a' b' x.had lt ac x.log a w ho h1).mono ?_
    rintro e w' ⟨he, hw⟩
    exact ⟨he, blw_of_eq hw⟩
  · obtain ⟨r, rfl⟩ : ∃ r : Nat, a = (r : Int) := ⟨a.toNat, by simp only [isOth, Bool.and_eq_true, decide_eq_true_eq] at ho; omega⟩
    rw [isOth_nat] at ho
    simp only [Bool.and_eq_true, decide_eq_true_eq] at ho
    refine ⟨shipL me p x r (x.ack r), 0, ⟨fun w hb => ship_yes b me n r p x w _ hn hme ho.2 ho.1 hp.ok hh rfl (hf.2 r) (fun c hc => (hl c hc).ok) hb, fun w hr => rship_yes cb me n r p x lt _ w hr hp hn hme ho.2 ho.1 rfl (hf.2 r) hh, ?_⟩⟩
    have t1 := text_len' p hp.ok
    unfold shipL
    split
    · simp
    · split
      · rename_i h1 h2
        have t2 := text_len' _ (hl _ h2).ok
        simp [headL]; omega
      · simp [headL]; omega

set_option maxRecDepth 100000 in
set_option maxHeartbeats 4000000 in
theorem other12 (base B : Nat) (d : PD) (r t a bb c : Int) (s : ByteArray) (w : World) (h : PairAt base B w d) (hbs : base ≤ w.heap.size) (hB : B ≤ 100000000) :
    Calls Tryz.prog 23 #[.pointer (some ⟨d.pb, 0, none⟩), .agg (opArr 12 r t a bb c s)] w fun e w' => e = .returned (.bool true) ∧ PStep base (B + 1) d w w' := by
  obtain ⟨tk, er, K⟩ := ship_both d.b d.cb d.me d.n d.p d.x d.lt a h.n h.me h.fine h.sz (fun c hc => h.cb.tail c hc)
  have H := hid h
  have KK := hid K
  have BX : Hid (Blw w (w.alloc (.cells (opArr 12 r t a bb c s) 46))) := (Blw.rfl _).al _
  have HW := hid (hp_new w (.cells (opArr 12 r t a bb c s) 46))
  have S0 := hid (Sees.of (BX.out.bk' h.pb) HW.out)
  have tkl := K.tkl
  clear h K
  unfold opArr at *
  go_enter Tryz.func23, Tryz.ntmps23
  go_wp2_with fail
  go_cut [13, 14] (fun s1 s2 w' => s1 = .string ⟨tk.toArray⟩ ∧ s2 = .int .i64 er ∧ Blw (w.alloc (.cells #[.int .i64 12, .int .i64 r, .int .i64 t, .int .i64 a, .int .i64 bb, .int .i64 c, .string s] 46)) w')
  case first =>
    go_region_held3 (fun w' => w'.cell? ⟨d.pb, 0, none⟩ = some (.pointer (some ⟨d.b, 0, none⟩)) ∧ w'.cell? ⟨d.pb, 1, none⟩ = some (.pointer (some ⟨d.cb, 0, none⟩)) ∧ w'.cell? ⟨w.heap.size, 3, none⟩ = some (.int .i64 a) ∧ w'.cell? ⟨w.heap.size, 4, none⟩ = some (.int .i64 bb) ∧ w'.cell? ⟨w.heap.size, 5, none⟩ = some (.int .i64 c) ∧ w'.cell? ⟨w.heap.size, 6, none⟩ = some (.string s)) (first | exact S1.out | exact S0.out)
      (first | (go_at_call 56; refine (KK.out.prog _ ((BX.out.dr).bk' H.out.b)).mono ?_; rintro e w2 ⟨rfl, b2⟩; have B2 := hid (Blw.tr (Blw.dr (Blw.rfl _)) b2); have S1 := hid (Sees.of ((BX.out.tr B2.out).bk' H.out.pb) (B2.out.bk' HW.out)); clear b2))
    all_goals
      go_wp2_with fail
      go_meet
      case rel => exact ⟨rfl, rfl, B2.out⟩
  case rest =>
    obtain ⟨rfl, rfl, g1⟩ := hcut
    have G1 := hid g1
    have GW := hid (BX.out.tr g1)
    have S2 := hid (Sees.of (GW.out.bk' H.out.pb) (g1.bk' HW.out))
    have HR := hid (H.out.cb.on GW.out)
    clear g1
    go_wp2_with fail
    go_cut [15, 16] (fun s1 s2 w' => s1 = .string ⟨tk.toArray⟩ ∧ s2 = .int .i64 er ∧ Blw wc w')
    case first =>
      go_region_held3 (fun w' => w'.cell? ⟨d.pb, 0, none⟩ = some (.pointer (some ⟨d.b, 0, none⟩)) ∧ w'.cell? ⟨d.pb, 1, none⟩ = some (.pointer (some ⟨d.cb, 0, none⟩)) ∧ w'.cell? ⟨w.heap.size, 3, none⟩ = some (.int .i64 a) ∧ w'.cell? ⟨w.heap.size, 4, none⟩ = some (.int .i64 bb) ∧ w'.cell? ⟨w.heap.size, 5, none⟩ = some (.int .i64 c) ∧ w'.cell? ⟨w.heap.size, 6, none⟩ = some (.string s)) (first | exact S3.out | exact S2.out)
        (first | (go_at_call 57; refine (KK.out.ref _ (HR.out.on (Blw.dr (Blw.rfl _)))).mono ?_; rintro e w4 ⟨rfl, b4⟩; have B4 := hid (Blw.tr (Blw.dr (Blw.rfl _)) b4); have S3 := hid (Sees.of ((GW.out.tr B4.out).bk' H.out.pb) ((G1.out.tr B4.out).bk' HW.out)); clear b4))
      all_goals
        go_wp2_with fail
        go_meet
        case rel => exact ⟨rfl, rfl, B4.out⟩
    case rest =>
      obtain ⟨rfl, rfl, g5⟩ := hcut
      have FN := hid (PStep.same H.out (GW.out.tr g5) (B + 1) (Nat.le_succ _))
      have htt : (tk == tk) = true := by simp
      have hee : (er == er) = true := by simp
      clear g5
      go_wp2_with fail
      refine (num_any er _).mono ?_
      rintro e w5 ⟨rfl, hw5⟩
      subst w5
      go_wp2
      go_ret
      exact ⟨rfl, FN.out⟩

theorem ackSpec_ex (ok fm : Bool) (f cn : Nat) (x : Ext) : ∃ er x', AckSpec ok fm f cn x er x' ∧ (x' = x ∨ (x' = x.setAck f cn ∧ cn ≤ x.had)) := by
  cases ok
  · exact ⟨5, x, ⟨fun _ => ⟨rfl, rfl⟩, fun h => by simp at h, fun h => by simp at h, fun h => by simp at h, fun h => by simp at h⟩, .inl rfl⟩
  · cases fm
    · exact ⟨6, x, ⟨fun h => by simp at h, fun _ _ => ⟨rfl, rfl⟩, fun _ h => by simp at h, fun _ h => by simp at h, fun _ h => by simp at h⟩, .inl rfl⟩
    · by_cases h1 : x.had < cn
      · exact ⟨9, x, ⟨fun h => by simp at h, fun _ h => by simp at h, fun _ _ _ => ⟨rfl, rfl⟩, fun _ _ h => by omega, fun _ _ h => by omega⟩, .inl rfl⟩
      · by_cases h2 : x.ack f < cn
        · exact ⟨0, x.setAck f cn, ⟨fun h => by simp at h, fun _ h => by simp at h, fun _ _ h => by omega, fun _ _ _ h => by omega, fun _ _ _ _ => ⟨rfl, rfl⟩⟩, .inr ⟨rfl, by omega⟩⟩
        · exact ⟨0, x, ⟨fun h => by simp at h, fun _ h => by simp at h, fun _ _ h => by omega, fun _ _ _ _ => ⟨rfl, rfl⟩, fun _ _ _ h => by omega⟩, .inl rfl⟩

/-- Both replicas' Acked. -/
structure AckBoth (b cb me n : Nat) (p : Pc) (x : Ext) (lt : Value) (s : ByteArray) (er : Int) (x' : Ext) : Prop where
  prog : ∀ w, w.heap[b]? = some (.cells (repArr me n p x) 69) → Calls Tryz.prog 58 #[.pointer (some ⟨b, 0, none⟩), .string s] w fun e w' => e = .returned (.int .i64 er) ∧ RepTo b me n p x' w w'
  ref : ∀ w, RefAt w cb me n p x lt → Calls Tryz.prog 59 #[.pointer (some ⟨cb, 0, none⟩), .string s] w fun e w' => e = .returned (.int .i64 er) ∧ AckTo cb me n p x' lt w w'
  had : x'.had = x.had
  log : x'.log = x.log
  sz : Fit p x'

theorem fit_ack {p : Pc} {x x' : Ext} {f cn : Nat} (hf : Fit p x) (h : x' = x ∨ (x' = x.setAck f cn ∧ cn ≤ x.had)) : x'.had = x.had ∧ x'.log = x.log ∧ Fit p x' := by
  rcases h with rfl | ⟨rfl, hc⟩
  · exact ⟨rfl, rfl, hf⟩
  · refine ⟨rfl, rfl, hf.1, fun r => ?_⟩
    show (if r = f then cn else x.ack r) ≤ x.had
    split
    · exact hc
    · exact hf.2 r

theorem five_list (s : ByteArray) (h : s.size = 5) : ∃ c0 c1 c2 c3 c4, s = ⟨#[c0, c1, c2, c3, c4]⟩ := by
  obtain ⟨l, hl⟩ : ∃ l : Bs, s = ⟨l.toArray⟩ := ⟨s.data.toList, (bs_eta s).symm⟩
  subst hl
  rw [bs_size] at h
  match l, h with
  | [c0, c1, c2, c3, c4], _ => exact ⟨c0, c1, c2, c3, c4, rfl⟩

theorem ack_both (b cb me n : Nat) (p : Pc) (x : Ext) (lt : Value) (s : ByteArray) (hn : n ≤ 3) (hf : Fit p x) : ∃ er x', AckBoth b cb me n p x lt s er x' := by
  have hh : x.had < 100 := by have := hf.1; have := size_le27 p; omega
  by_cases h5 : s.size = 5
  · obtain ⟨c0, c1, c2, c3, c4, rfl⟩ := five_list s h5
    obtain ⟨ok, hok⟩ : ∃ ok, ok = (hdOk c1 c2 c3 c4 && ([c0] == [(65 : UInt8)])) := ⟨_, rfl⟩
    obtain ⟨f, hff⟩ : ∃ f, f = c1.toNat - 48 := ⟨_, rfl⟩
    obtain ⟨cn, hcn⟩ : ∃ cn, cn = (c3.toNat - 48) * 10 + (c4.toNat - 48) := ⟨_, rfl⟩
    obtain ⟨fm, hfm⟩ : ∃ fm, fm = forMe me n f (c2.toNat - 48) := ⟨_, rfl⟩
    obtain ⟨er, x', hS, hx⟩ := ackSpec_ex ok fm f cn x
    obtain ⟨k1, k2, k3⟩ := fit_ack hf hx
    have hR := fun w hr => racked_any cb me n p x lt c0 c1 c2 c3 c4 ok fm f cn er x' w hok hff hcn hfm hS hh hf.2 hn hr c0.toNat_lt
    cases hd : hdOk c1 c2 c3 c4
    · obtain ⟨e1, e2⟩ := hS.h5 (by rw [hok, hd]; rfl)
      subst e1 e2
      exact ⟨_, _, ⟨fun w hb => acked_bad b me n p x' _ w (fun wx => readHead_any c0 c1 c2 c3 c4 false _ wx hd.symm rfl) hb, hR, k1, k2, k3⟩⟩
    · have b1 := hd
      simp only [hdOk, Bool.and_eq_true] at b1
      have a1 := (isRepB_iff _).1 b1.1
      have a3 := (isDigB_iff _).1 b1.2.2.1
      have a4 := (isDigB_iff _).1 b1.2.2.2
      have hkf := hf.2 f
      refine ⟨er, x', ⟨fun w hb => ?_, hR, k1, k2, k3⟩⟩
      have : f = 0 ∨ f = 1 ∨ f = 2 := by omega
      rcases this with e | e | e
      · subst e; exact acked_at0 b me n p x c0 c1 c2 c3 c4 ok fm cn er x' _ w rfl hok hff.symm hcn hfm hS hh hb hd (by omega) (by omega)
      · subst e; exact acked_at1 b me n p x c0 c1 c2 c3 c4 ok fm cn er x' _ w rfl hok hff.symm hcn hfm hS hh hb hd (by omega) (by omega)
      · subst e; exact acked_at2 b me n p x c0 c1 c2 c3 c4 ok fm cn er x' _ w rfl hok hff.symm hcn hfm hS hh hb hd (by omega) (by omega)
  · refine ⟨5, x, ⟨fun w hb => acked_bad b me n p x s w (fun wx => readHead_len s wx h5) hb, fun w hr => ?_, rfl, rfl, hf⟩⟩
    refine (racked_len cb s w h5).mono ?_
    rintro e w' ⟨he, hw⟩
    exact ⟨he, AckTo.same hr (blw_of_eq hw)⟩

theorem pstep_ack {base B : Nat} {d : PD} {w w1 w2 w3 w4 : World} {er : Int} {s : ByteArray} {x' : Ext} (h : PairAt base B w d) (K : AckBoth d.b d.cb d.me d.n d.p d.x d.lt s er x') (h1 : Blw w w1) (h2 : RepTo d.b d.me d.n d.p x' w1 w2) (h23 : Blw w2 w3) (h3 : AckTo d.cb d.me d.n d.p x' d.lt w3 w4) : PStep base (B + 1) d w w4 := by
  have s1 := h1.sz
  have s2 := h2.2.size
  have npb : d.pb ≠ d.b := ty_ne h.pb h.b (by decide)
  have nb : d.b ≠ d.cb - 1 := ty_ne h.b h.cb.ackBlk (by decide)
  have npa : d.pb ≠ d.cb - 1 := ty_ne h.pb h.cb.ackBlk (by decide)
  refine ⟨⟨⟨d.pb, d.b, d.cb, d.me, d.n, d.p, x', d.lt⟩, ⟨?_, ?_, h3.at_, h.me, h.n, h.fine, h.hole, ?_, ?_, h.l1, h.l2, h.l3, h.l4, K.sz⟩, rfl, rfl, rfl, .inl rfl⟩, ?_⟩
  · have e1 := h1.bk' h.pb
    have e2 := (h2.2.block d.pb (lt_of_blk e1) npb).trans e1
    have e3 := h23.bk' e2
    exact (h3.bs.block d.pb (lt_of_blk e3) npa).trans e3
  · have e3 := h23.bk' h2.1
    exact (h3.bs.block d.b (lt_of_blk e3) nb).trans e3
  · have := K.had; have := h.had; show x'.had ≤ B + 1 + 100; omega
  · have e : x'.log.length = d.x.log.length := congrArg List.length K.log
    have := h.log; show x'.log.length ≤ (B + 1 + 10) * 1000; omega
  · refine (h1.b2 _).tr (Bs2.weak (Bs2.tr (h2.2.b2.weak (T := d.own) (fun i hi => .inl hi)) ?_) (fun i hi => .inl hi))
    exact ((h23.b2 (fun k => k = d.cb - 1)).tr (h3.bs.weak (fun i hi => .inl hi))).weak (fun i hi => .inl (.inr (.inr (.inr hi))))

theorem ref_on_rep2 {w w' : World} {base B : Nat} {d : PD} (h : PairAt base B w d) {w1 : World} (h1 : Blw w w1) {q : Pc} {y : Ext} (h2 : RepTo d.b d.me d.n q y w1 w') : RefAt w' d.cb d.me d.n d.p d.x d.lt := ref_on_rep h h1 h2

set_option maxRecDepth 100000 in
set_option maxHeartbeats 4000000 in
theorem other13 (base B : Nat) (d : PD) (r t a bb c : Int) (s : ByteArray) (w : World) (h : PairAt base B w d) (hbs : base ≤ w.heap.size) (hB : B ≤ 100000000) :
    Calls Tryz.prog 23 #[.pointer (some ⟨d.pb, 0, none⟩), .agg (opArr 13 r t a bb c s)] w fun e w' => e = .returned (.bool true) ∧ PStep base (B + 1) d w w' := by
  obtain ⟨er, x', K⟩ := ack_both d.b d.cb d.me d.n d.p d.x d.lt s h.n h.sz
  have H := hid h
  have KK := hid K
  have BX : Hid (Blw w (w.alloc (.cells (opArr 13 r t a bb c s) 46))) := (Blw.rfl _).al _
  have HW := hid (hp_new w (.cells (opArr 13 r t a bb c s) 46))
  have S0 := hid (Sees.of (BX.out.bk' h.pb) HW.out)
  clear h K
  unfold opArr at *
  go_enter Tryz.func23, Tryz.ntmps23
  go_wp2_with fail
  go_cut [17] (fun s2 w' => s2 = .int .i64 er ∧ w'.heap[w.heap.size]? = some (.cells #[.int .i64 13, .int .i64 r, .int .i64 t, .int .i64 a, .int .i64 bb, .int .i64 c, .string s] 46) ∧ w'.heap[d.pb]? = some (.cells #[.pointer (some ⟨d.b, 0, none⟩), .pointer (some ⟨d.cb, 0, none⟩)] 52) ∧ ∃ w1, Blw w w1 ∧ RepTo d.b d.me d.n d.p x' w1 w')
  case first =>
    go_region_held3 (fun w' => w'.cell? ⟨d.pb, 0, none⟩ = some (.pointer (some ⟨d.b, 0, none⟩)) ∧ w'.cell? ⟨d.pb, 1, none⟩ = some (.pointer (some ⟨d.cb, 0, none⟩)) ∧ w'.cell? ⟨w.heap.size, 3, none⟩ = some (.int .i64 a) ∧ w'.cell? ⟨w.heap.size, 4, none⟩ = some (.int .i64 bb) ∧ w'.cell? ⟨w.heap.size, 5, none⟩ = some (.int .i64 c) ∧ w'.cell? ⟨w.heap.size, 6, none⟩ = some (.string s)) (first | exact S1.out | exact S0.out)
      (first | (go_at_call 58; refine (KK.out.prog _ ((BX.out.dr).bk' H.out.b)).mono ?_; rintro e w2 ⟨rfl, r2⟩; have Z2 := hid (seen_rep H.out (show (w.alloc _).drew.heap[w.heap.size]? = _ from HW.out) BX.out.dr r2); have S1 := hid (Sees.of Z2.out.1 Z2.out.2); have R2 := hid r2; clear r2))
    all_goals
      go_wp2_with fail
      go_meet
      case rel => exact ⟨rfl, Z2.out.2, Z2.out.1, _, BX.out.dr, R2.out⟩
  case rest =>
    obtain ⟨rfl, g1, g2, w1, g3, g4⟩ := hcut
    have G4 := hid g4
    have G3 := hid g3
    have S2 := hid (Sees.of g2 g1)
    have HR := hid (ref_on_rep H.out g3 g4)
    have Z1 := hid (And.intro g2 g1)
    clear g1 g2 g3 g4
    go_wp2_with fail
    go_cut [18] (fun s2 w' => s2 = .int .i64 er ∧ ∃ w2, Blw wc w2 ∧ AckTo d.cb d.me d.n d.p x' d.lt w2 w')
    case first =>
      go_region_held3 (fun w' => w'.cell? ⟨d.pb, 0, none⟩ = some (.pointer (some ⟨d.b, 0, none⟩)) ∧ w'.cell? ⟨d.pb, 1, none⟩ = some (.pointer (some ⟨d.cb, 0, none⟩)) ∧ w'.cell? ⟨w.heap.size, 3, none⟩ = some (.int .i64 a) ∧ w'.cell? ⟨w.heap.size, 4, none⟩ = some (.int .i64 bb) ∧ w'.cell? ⟨w.heap.size, 5, none⟩ = some (.int .i64 c) ∧ w'.cell? ⟨w.heap.size, 6, none⟩ = some (.string s)) (first | exact S3.out | exact S2.out)
        (first | (go_at_call 59; refine (KK.out.ref _ (HR.out.on (Blw.dr (Blw.rfl _)))).mono ?_; rintro e w4 ⟨rfl, r4⟩; have e1 := (Blw.dr (Blw.rfl wc)).bk' Z1.out.1; have e2 := (Blw.dr (Blw.rfl wc)).bk' Z1.out.2; have S3 := hid (Sees.of ((r4.bs.block d.pb (lt_of_blk e1) (ty_ne H.out.pb H.out.cb.ackBlk (by decide))).trans e1) ((r4.bs.block _ (lt_of_blk e2) (by have := lt_of_blk H.out.cb.ackBlk; omega)).trans e2)); have R4 := hid r4; clear r4 e1 e2))
      all_goals
        go_wp2_with fail
        go_meet
        case rel => exact ⟨rfl, _, Blw.dr (Blw.rfl _), R4.out⟩
    case rest =>
      obtain ⟨rfl, w2, g5, g6⟩ := hcut
      have FN := hid (pstep_ack H.out KK.out G3.out G4.out g5 g6)
      have hee : (er == er) = true := by simp
      clear g5 g6
      go_wp2_with fail
      refine (num_any er _).mono ?_
      rintro e w5 ⟨rfl, hw5⟩
      subst w5
      go_wp2
      go_ret
      exact ⟨rfl, FN.out⟩

theorem does13 : Does 13 where
  client o h3 h7 h6 base B d w h hb hB hs ht := does11.client o h3 h7 (by omega) base B d w h hb hB hs ht
  other o h1 n1 n10 n37 h6 base B d w h hb hB hs ht := by
    by_cases hk : o.kind ≤ 11
    · exact does11.other o h1 n1 n10 n37 hk base B d w h hb hB hs ht
    · obtain ⟨kd, r, t, a, b, c, s⟩ := o
      simp only at h1 n1 n10 n37 h6 hs hk
      have : kd = 12 ∨ kd = 13 := by omega
      rcases this with rfl | rfl
      · exact other12 base B d r t a b c s w h hb (by omega)
      · exact other13 base B d r t a b c s w h hb (by omega)
  begin o hk h6 base B w hb hB hs ht := does11.begin o hk (by omega) base B w hb hB hs ht
end Go.Proofs.YtalaldfgjgpacaaGreatDoor
