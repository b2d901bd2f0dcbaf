import Derived.Test.YtalaldfgjgpacaaGreatDoorHD
import Derived.Test.YtalaldfgjgpacaaGreatDoorP10
namespace Go.Proofs.YtalaldfgjgpacaaGreatDoor
set_option linter.unusedVariables false
set_option linter.unusedSimpArgs false
open Go.RowKit
attribute [local go_sem ↓] Go.wp_at_zero Go.wp_at_succ

theorem pair_open {base : Nat} {me n : Nat} (hn : n ≤ 3) (hm : me < n) {w w1 w2 w3 : World} {pb cb b : Nat} (hw : base ≤ w.heap.size) (B : Nat) {p : Pc} {x : Ext} (hp : p.fine) (hh : p.noHole) (hs : Fit p x) (hl : x.log.length ≤ 9000)
    (h1 : w1.heap[b]? = some (.cells (repArr me n p x) 69)) (hb : w.heap.size ≤ b) (h2 : RefAt w2 cb me n p x (.slice none 0 0)) (hcb : w.heap.size ≤ cb - 1) (b12 : Blw w1 w2) (b23 : Blw w2 w3) (hpb : w.heap.size ≤ pb)
    (h3 : w3.heap[pb]? = some (.cells #[.pointer (some ⟨b, 0, none⟩), .pointer (some ⟨cb, 0, none⟩)] 52)) : PairAt base B w3 ⟨pb, b, cb, me, n, p, x, .slice none 0 0⟩ :=
  ⟨h3, (b12.tr b23).bk' h1, h2.on b23, hm, hn, hp, hh, (by show x.had ≤ B + 100; have := size_le27 p; have := hs.1; omega), (by show x.log.length ≤ (B + 10) * 1000; omega), Nat.le_trans hw hb, Nat.le_trans hw hcb, (fun g hg => by cases hg), Nat.le_trans hw hpb, hs⟩

set_option maxRecDepth 100000 in
set_option maxHeartbeats 2000000 in
theorem begin10_no (r t a bb c : Int) (s : ByteArray) (er : Int) (w : World) (h0 : 0 ≤ er) (h1 : er ≤ 10)
    (HN : Hid (∀ wx, Blw w wx → Calls Tryz.prog 39 #[.int .i64 a, .int .i64 bb, .string s] wx fun e w' => e = .returned (.tuple #[.pointer none, .int .i64 er]) ∧ Blw wx w'))
    (HR : Hid (∀ wx, Blw w wx → Calls Tryz.prog 40 #[.int .i64 a, .int .i64 bb, .string s] wx fun e w' => e = .returned (.tuple #[.pointer none, .int .i64 er]) ∧ Blw wx w')) :
    Calls Tryz.prog 20 #[.agg (opArr 10 r t a bb c s)] w fun e w' => ∃ g, e = .returned (.tuple #[.pointer (some ⟨g, 0, none⟩), .bool true]) ∧ w'.heap[g]? = some (.cells #[.pointer none, .pointer none] 52) ∧ Blw w w' := by
  have BX : Hid (Blw w (w.alloc (.cells (opArr 10 r t a bb c s) 46))) := (Blw.rfl _).al _
  have HW := hid (hp_new w (.cells (opArr 10 r t a bb c s) 46))
  have hee : (er == er) = true := by simp
  unfold opArr at *
  go_enter Tryz.func20, Tryz.ntmps20
  go_wp2_with fail
  refine (HN.out _ BX.out).mono ?_
  rintro e w1 ⟨rfl, b1⟩
  have g2 := b1.bk' HW.out
  have e3 : w1.cell? ⟨w.heap.size, 3, none⟩ = some (.int .i64 a) := blk_cell g2 3
  have e4 : w1.cell? ⟨w.heap.size, 4, none⟩ = some (.int .i64 bb) := blk_cell g2 4
  have e6 : w1.cell? ⟨w.heap.size, 6, none⟩ = some (.string s) := blk_cell g2 6
  have B1 := hid (BX.out.tr b1)
  clear b1 g2
  go_wp2_with fail
  refine (HR.out _ B1.out).mono ?_
  rintro e w2 ⟨rfl, b2⟩
  have B2 := hid (B1.out.tr b2)
  clear b2 e3 e4 e6
  go_wp2_with fail
  refine (num_any er _).mono ?_
  rintro e w3 ⟨rfl, hw3⟩
  subst w3
  go_wp2
  go_ret2
  exact ⟨_, rfl, hp_new _ _, B2.out.al _⟩

set_option maxRecDepth 100000 in
set_option maxHeartbeats 2000000 in
theorem begin10_yes (base B : Nat) (r t c : Int) (me n : Nat) (log : Bs) (F : LR) (w : World) (hbs : base ≤ w.heap.size) (hm : me < n) (hn : n ≤ 3) (hl : log.length ≤ 9000) (hF : F = logRun n log (log.length + 1) 0 Pc.empty Ext.zero) (hok : F.ok = true) (ht : Tab Tryz.prog w) :
    Calls Tryz.prog 20 #[.agg (opArr 10 r t me n c ⟨log.toArray⟩)] w fun e w' => ∃ d : PD, e = .returned (.tuple #[.pointer (some ⟨d.pb, 0, none⟩), .bool true]) ∧ PairAt base B w' d ∧ Blw w w' ∧ w.heap.size ≤ d.b ∧ w.heap.size ≤ d.cb ∧ d.lt.ownBlock = none := by
  have HI : Hid (LInv log F.a F.h F.x) := by
    have h1 := hok
    rw [hF] at h1
    have := logRun_inv n log (log.length + 1) 0 _ _ (LInv.start log) h1
    rw [← hF] at this; exact this
  have HLL : Hid (F.x.log.length ≤ 9000) := by show _ ≤ _; rw [HI.out.log]; simp; omega
  have HN := hid (fun wx ht' => open_yes me n log F wx hF hl hn hm ht')
  have HR := hid (fun wx => ropen_yes me n log F wx hF hl hn hm)
  have HOK := hid hok
  have T := hid ht
  obtain ⟨s, hs⟩ : ∃ s : ByteArray, s = ⟨log.toArray⟩ := ⟨_, rfl⟩
  rw [← hs] at HN HR ⊢
  have BX : Hid (Blw w (w.alloc (.cells (opArr 10 r t me n c s) 46))) := (Blw.rfl _).al _
  have HW := hid (hp_new w (.cells (opArr 10 r t me n c s) 46))
  clear hok hF hl ht hs
  unfold opArr at *
  go_enter Tryz.func20, Tryz.ntmps20
  go_wp2_with fail
  refine (HN.out _ (T.out.blw BX.out)).mono ?_
  rintro e w1 ⟨b1, hcase⟩
  have B1 := hid (BX.out.tr b1)
  rcases hcase with ⟨_, rfl, g1⟩ | ⟨hbad, _⟩
  · have G1 : Hid (w1.heap[w.heap.size + 1]? = some (.cells (repArr me n F.h F.x) 69)) := by show _ = _; simpa using g1
    have g2 := b1.bk' HW.out
    have e3 : w1.cell? ⟨w.heap.size, 3, none⟩ = some (.int .i64 me) := blk_cell g2 3
    have e4 : w1.cell? ⟨w.heap.size, 4, none⟩ = some (.int .i64 n) := blk_cell g2 4
    have e6 : w1.cell? ⟨w.heap.size, 6, none⟩ = some (.string s) := blk_cell g2 6
    clear b1 g1 g2
    go_wp2_with fail
    refine (HR.out _).mono ?_
    rintro e w2 ⟨b2, hcase⟩
    have B2 := hid b2
    rcases hcase with ⟨_, cb, hcb, rfl, r2⟩ | ⟨hbad, _⟩
    · have R2 := hid r2
      have s1 := B1.out.sz
      clear r2 b2 e3 e4 e6
      go_wp2_with fail
      refine (num_any 0 _).mono ?_
      rintro e w3 ⟨rfl, hw3⟩
      subst w3
      go_wp2
      go_ret2
      exact ⟨⟨w2.heap.size, w.heap.size + 1, cb, me, n, F.h, F.x, .slice none 0 0⟩, rfl, pair_open hn hm (w := w) hbs B HI.out.fine HI.out.hole ⟨HI.out.had, fun r => by rw [HI.out.bare.2]; exact Nat.zero_le _⟩ HLL.out G1.out (Nat.le_succ _) R2.out (Nat.le_trans s1 hcb) B2.out ((Blw.rfl _).al _) (Nat.le_trans s1 B2.out.sz) (hp_new _ _), (B1.out.tr B2.out).al _, Nat.le_succ _, (by show w.heap.size ≤ cb; omega), rfl⟩
    · rw [HOK.out] at hbad; cases hbad
  · rw [HOK.out] at hbad; cases hbad

theorem does10 : Does 10 where
  client o h3 h7 h6 base B d w h hb hB hs ht := does9.client o h3 h7 (by omega) base B d w h hb hB hs ht
  other o h1 n1 n10 n37 h6 base B d w h hb hB hs ht := does9.other o h1 n1 n10 n37 (by omega) base B d w h hb hB hs ht
  begin o hk h6 base B w hb hB hs ht := by
    by_cases h1 : o.kind = 1
    · exact does9.begin o hk (by omega) base B w hb hB hs ht
    · obtain ⟨kd, r, t, a, b, c, s⟩ := o
      simp only at hk h1 hs
      have : kd = 10 := hk.resolve_left h1
      subst this
      have no : ∀ er : Int, 0 ≤ er → er ≤ 10 → (∀ wx, Blw w wx → Calls Tryz.prog 39 #[.int .i64 a, .int .i64 b, .string s] wx fun e w' => e = .returned (.tuple #[.pointer none, .int .i64 er]) ∧ Blw wx w') →
          (∀ wx, Blw w wx → Calls Tryz.prog 40 #[.int .i64 a, .int .i64 b, .string s] wx fun e w' => e = .returned (.tuple #[.pointer none, .int .i64 er]) ∧ Blw wx w') →
          Calls Tryz.prog 20 #[.agg (OpR.arr ⟨10, r, t, a, b, c, s⟩)] w fun e w' => ∃ g, e = .returned (.tuple #[.pointer (some ⟨g, 0, none⟩), .bool true]) ∧ Blw w w' ∧
            (w'.heap[g]? = some (.cells #[.pointer none, .pointer none] 52) ∨ ∃ d : PD, d.pb = g ∧ PairAt base (B + 1) w' d ∧ w.heap.size ≤ d.b ∧ w.heap.size ≤ d.cb ∧ d.lt.ownBlock = none) := by
        intro er h0 h1 hP hR
        refine (begin10_no r t a b c s er w h0 h1 hP hR).mono ?_
        rintro e w' ⟨g, he, h1, h2⟩
        exact ⟨g, he, h2, .inl h1⟩
      cases hn : newOk a b
      · exact no 1 (by decide) (by decide) (fun wx _ => open_no a b s wx hn) (fun wx _ => ropen_no a b s wx hn)
      · obtain ⟨me, n, rfl, rfl, hm, hn3⟩ := newOk_nat hn
        by_cases hlg : 9000 < s.size
        · exact no 10 (by decide) (by decide) (fun wx _ => open_long me n s wx hn3 hm hlg hs) (fun wx _ => ropen_long me n s wx hn3 hm hlg hs)
        · obtain ⟨log, hlog⟩ : ∃ log : Bs, s = ⟨log.toArray⟩ := ⟨s.data.toList, (bs_eta s).symm⟩
          have hl : log.length ≤ 9000 := by rw [hlog, bs_size] at hlg; omega
          cases hok : (logRun n log (log.length + 1) 0 Pc.empty Ext.zero).ok
          · refine no 10 (by decide) (by decide) (fun wx hx => ?_) (fun wx hx => ?_)
            · rw [hlog]
              refine (open_yes me n log _ wx rfl hl hn3 hm (ht.blw hx)).mono ?_
              rintro e w' ⟨b1, ⟨h1, _⟩ | ⟨_, h2⟩⟩
              · rw [hok] at h1; cases h1
              · exact ⟨h2, b1⟩
            · rw [hlog]
              refine (ropen_yes me n log _ wx rfl hl hn3 hm).mono ?_
              rintro e w' ⟨b1, ⟨h1, _⟩ | ⟨_, h2⟩⟩
              · rw [hok] at h1; cases h1
              · exact ⟨h2, b1⟩
          · subst hlog
            refine (begin10_yes base (B + 1) r t c me n log _ w hb hm hn3 hl rfl hok ht).mono ?_
            rintro e w' ⟨d, he, h1, h2, h3, h4, h5⟩
            exact ⟨d.pb, he, h2, .inr ⟨d, rfl, h1, h3, h4, h5⟩⟩
end Go.Proofs.YtalaldfgjgpacaaGreatDoor
