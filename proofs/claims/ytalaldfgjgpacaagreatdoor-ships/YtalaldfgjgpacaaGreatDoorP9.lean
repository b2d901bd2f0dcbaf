import Derived.Test.YtalaldfgjgpacaaGreatDoorP8
import Derived.Test.YtalaldfgjgpacaaGreatDoorQF
import Derived.Deep.RegionHeld3
namespace Go.Proofs.YtalaldfgjgpacaaGreatDoor
set_option linter.unusedVariables false
set_option linter.unusedSimpArgs false
open Go.RowKit
attribute [local go_sem ↓] Go.wp_at_zero Go.wp_at_succ

set_option maxRecDepth 100000 in
set_option maxHeartbeats 1000000 in
theorem rread_stale (cb me n : Nat) (p : Pc) (x : Ext) (lt : Value) (s : ByteArray) (c : Nat) (w : World) (hn : n ≤ 3) (hs : s.size ≤ maxLen) (hR : RefAt w cb me n p x lt) (hp : p.fine) (hc : c < 3) (hE : tokErr n p s.data.toList ≠ 0) :
    Calls Tryz.prog 50 #[.pointer (some ⟨cb, 0, none⟩), .string s, .int .i64 c] w fun e w' => e = .returned (.tuple #[.string ⟨#[]⟩, .string ⟨#[]⟩, .int .i64 (tokErr n p s.data.toList)]) ∧ w' = w := by
  obtain ⟨a, b, ac, D, E, ln, ls, h1, h2, h3, h4, h5, h6⟩ := hR.h
  have HM := hid (may_any cb me n a b x.had lt ac x.log D E p s w hn hs h1 (h6.pcAt hp.ok h2 h3) (h6.known hp.ok))
  have HIC := hid (risCart_any (c : Int) w)
  rw [show cartB3 (c : Int) = true by simp [cartB3]; omega] at HIC
  generalize tokErr n p s.data.toList = t at *
  have ht' : (t != 0) = true := by simpa using hE
  clear h1 h2 h3 h4 h5 h6 hR hE hp
  go_enter Tryz.func50, Tryz.ntmps50
  go_wp2_with fail
  refine HIC.out.mono ?_
  rintro e w1 ⟨rfl, hw1⟩
  subst w1
  go_wp2_with fail
  refine HM.out.mono ?_
  rintro e w1 ⟨rfl, hw1⟩
  subst w1
  go_wp2
  go_ret3
  exact ⟨rfl, rfl⟩

set_option maxRecDepth 100000 in
set_option maxHeartbeats 1000000 in
theorem rread_no (cb : Nat) (s : ByteArray) (c : Int) (w : World) (hno : ¬ (0 ≤ c ∧ c < 3)) :
    Calls Tryz.prog 50 #[.pointer (some ⟨cb, 0, none⟩), .string s, .int .i64 c] w fun e w' => e = .returned (.tuple #[.string ⟨#[]⟩, .string ⟨#[]⟩, .int .i64 1]) ∧ w' = w := by
  have HIC := hid (risCart_any c w)
  rw [show cartB3 c = false by simp [cartB3]; omega] at HIC
  clear hno
  go_enter Tryz.func50, Tryz.ntmps50
  go_wp2_with fail
  refine HIC.out.mono ?_
  rintro e w1 ⟨rfl, hw1⟩
  subst w1
  go_wp2
  go_ret3
  exact ⟨rfl, rfl⟩

/-- What Read gives at a replica of both kinds. -/
structure Both3 (b cb me n : Nat) (p : Pc) (x : Ext) (lt : Value) (args : Array Value) (l tk : Bs) (er : Int) : Prop where
  prog : ∀ w, w.heap[b]? = some (.cells (repArr me n p x) 69) → Tab Tryz.prog w → Calls Tryz.prog 49 (#[.pointer (some ⟨b, 0, none⟩)] ++ args) w fun e w' => e = .returned (.tuple #[.string ⟨l.toArray⟩, .string ⟨tk.toArray⟩, .int .i64 er]) ∧ Blw w w'
  ref : ∀ w, RefAt w cb me n p x lt → Calls Tryz.prog 50 (#[.pointer (some ⟨cb, 0, none⟩)] ++ args) w fun e w' => e = .returned (.tuple #[.string ⟨l.toArray⟩, .string ⟨tk.toArray⟩, .int .i64 er]) ∧ Blw w w'
  ll : l.length ≤ 100
  tkl : tk.length ≤ 3

theorem blw_of_eq {w w' : World} (h : w' = w) : Blw w w' := by rw [h]; exact Blw.rfl _

theorem read_both (b cb me n : Nat) (p : Pc) (x : Ext) (lt : Value) (s : ByteArray) (c : Int) (hn : n ≤ 3) (hs : s.size ≤ maxLen) (hp : p.fine) :
    ∃ l tk er, Both3 b cb me n p x lt #[.string s, .int .i64 c] l tk er := by
  by_cases hok : 0 ≤ c ∧ c < 3
  · obtain ⟨cn, rfl⟩ : ∃ cn : Nat, c = (cn : Int) := ⟨c.toNat, by omega⟩
    have hl := sumsTo_len p hp.ok (cn : Int) 4
    by_cases hE : tokErr n p s.data.toList = 0
    · exact ⟨_, _, _, fun w hb ht => read_yes b me n p s cn w hn hs hp.ok ht hb (by omega) (by omega) hE, fun w hr => rread_yes cb me n p x lt s cn w hn hs hr hp (by omega) hE, by omega, by rw [digsTo_len]; exact hn⟩
    · exact ⟨[], [], _, fun w hb ht => read_stale b me n p s cn w hn hs hb (by omega) (by omega) hE, fun w hr => (rread_stale cb me n p x lt s cn w hn hs hr hp (by omega) hE).mono fun e w' h => ⟨h.1, blw_of_eq h.2⟩, by simp, by simp⟩
  · exact ⟨[], [], _, fun w hb ht => (read_no b s c w hok).mono fun e w' h => ⟨h.1, blw_of_eq h.2⟩, fun w hr => (rread_no cb s c w hok).mono fun e w' h => ⟨h.1, blw_of_eq h.2⟩, by simp, by simp⟩

set_option maxRecDepth 100000 in
set_option maxHeartbeats 4000000 in
theorem client7 (base B : Nat) (d : PD) (r t a bb c : Int) (s : ByteArray) (w : World) (h : PairAt base B w d) (hbs : base ≤ w.heap.size) (hB : B ≤ 100000000) (hs : s.size ≤ maxLen) (ht : Tab Tryz.prog w) :
    Calls Tryz.prog 22 #[.pointer (some ⟨d.pb, 0, none⟩), .agg (opArr 7 r t a bb c s)] w fun e w' => e = .returned (.bool true) ∧ PStep base (B + 1) d w w' := by
  obtain ⟨l, tk, er, K⟩ := read_both d.b d.cb d.me d.n d.p d.x d.lt s a h.n hs h.fine
  have H := hid h
  have KK := hid K
  have TB := hid ht
  have BX : Hid (Blw w (w.alloc (.cells (opArr 7 r t a bb c s) 46))) := (Blw.rfl _).al _
  have HW := hid (hp_new w (.cells (opArr 7 r t a bb c s) 46))
  have S0 := hid (Sees.of (BX.out.bk' h.pb) HW.out)
  have tkl := K.tkl
  have lkl := K.ll
  clear h K ht hs
  unfold opArr at *
  go_enter Tryz.func22, Tryz.ntmps22
  go_wp2_with fail
  go_cut [21, 22, 23] (fun s0 s1 s2 w' => s0 = .string ⟨l.toArray⟩ ∧ s1 = .string ⟨tk.toArray⟩ ∧ s2 = .int .i64 er ∧ Blw (w.alloc (.cells #[.int .i64 7, .int .i64 r, .int .i64 t, .int .i64 a, .int .i64 bb, .int .i64 c, .string s] 46)) w')
  case first =>
    go_region_held3 (fun w' => w'.cell? ⟨d.pb, 0, none⟩ = some (.pointer (some ⟨d.b, 0, none⟩)) ∧ w'.cell? ⟨d.pb, 1, none⟩ = some (.pointer (some ⟨d.cb, 0, none⟩)) ∧ w'.cell? ⟨w.heap.size, 3, none⟩ = some (.int .i64 a) ∧ w'.cell? ⟨w.heap.size, 4, none⟩ = some (.int .i64 bb) ∧ w'.cell? ⟨w.heap.size, 5, none⟩ = some (.int .i64 c) ∧ w'.cell? ⟨w.heap.size, 6, none⟩ = some (.string s)) (first | exact S1.out | exact S0.out)
      (first | (go_at_call 49; refine (KK.out.prog _ ((BX.out.dr).bk' H.out.b) (TB.out.blw BX.out.dr)).mono ?_; rintro e w2 ⟨rfl, b2⟩; have B2 := hid (Blw.tr (Blw.dr (Blw.rfl _)) b2); have S1 := hid (Sees.of ((BX.out.tr B2.out).bk' H.out.pb) (B2.out.bk' HW.out)); clear b2))
    all_goals
      go_wp2_with fail
      go_meet
      case rel => exact ⟨rfl, rfl, rfl, B2.out⟩
  case rest =>
    obtain ⟨rfl, rfl, rfl, g1⟩ := hcut
    have G1 := hid g1
    have GW := hid (BX.out.tr g1)
    have S2 := hid (Sees.of (GW.out.bk' H.out.pb) (g1.bk' HW.out))
    have HR := hid (H.out.cb.on GW.out)
    clear g1
    go_wp2_with fail
    go_cut [24, 25, 26] (fun s0 s1 s2 w' => s0 = .string ⟨l.toArray⟩ ∧ s1 = .string ⟨tk.toArray⟩ ∧ s2 = .int .i64 er ∧ Blw wc w')
    case first =>
      go_region_held3 (fun w' => w'.cell? ⟨d.pb, 0, none⟩ = some (.pointer (some ⟨d.b, 0, none⟩)) ∧ w'.cell? ⟨d.pb, 1, none⟩ = some (.pointer (some ⟨d.cb, 0, none⟩)) ∧ w'.cell? ⟨w.heap.size, 3, none⟩ = some (.int .i64 a) ∧ w'.cell? ⟨w.heap.size, 4, none⟩ = some (.int .i64 bb) ∧ w'.cell? ⟨w.heap.size, 5, none⟩ = some (.int .i64 c) ∧ w'.cell? ⟨w.heap.size, 6, none⟩ = some (.string s)) (first | exact S3.out | exact S2.out)
        (first | (go_at_call 50; refine (KK.out.ref _ (HR.out.on (Blw.dr (Blw.rfl _)))).mono ?_; rintro e w4 ⟨rfl, b4⟩; have B4 := hid (Blw.tr (Blw.dr (Blw.rfl _)) b4); have S3 := hid (Sees.of ((GW.out.tr B4.out).bk' H.out.pb) ((G1.out.tr B4.out).bk' HW.out)); clear b4))
      all_goals
        go_wp2_with fail
        go_meet
        case rel => exact ⟨rfl, rfl, rfl, B4.out⟩
    case rest =>
      obtain ⟨rfl, rfl, rfl, g5⟩ := hcut
      have FN := hid (PStep.same H.out (GW.out.tr g5) (B + 1) (Nat.le_succ _))
      have htt : (tk == tk) = true := by simp
      have hll : (l == l) = true := by simp
      have hee : (er == er) = true := by simp
      clear g5
      go_wp2_with fail
      refine (num_any er _).mono ?_
      rintro e w5 ⟨rfl, hw5⟩
      subst w5
      go_wp2
      go_ret
      exact ⟨rfl, FN.out⟩

theorem does7 : Does 7 where
  client o h3 h7 h6 base B d w h hb hB hs ht := by
    by_cases hk : o.kind ≤ 6
    · exact does6.client o h3 h7 hk base B d w h hb hB hs ht
    · obtain ⟨kd, r, t, a, b, c, s⟩ := o
      simp only at h3 h7 h6 hs hk
      have : kd = 7 := by omega
      subst this
      exact client7 base B d r t a b c s w h hb (by omega) hs ht
  other o h1 n1 n10 n37 h6 base B d w h hb hB hs ht := does6.other o h1 n1 n10 n37 (by omega) base B d w h hb hB hs ht
  begin o hk h6 base B w hb hB hs ht := does6.begin o hk (by omega) base B w hb hB hs ht
end Go.Proofs.YtalaldfgjgpacaaGreatDoor
