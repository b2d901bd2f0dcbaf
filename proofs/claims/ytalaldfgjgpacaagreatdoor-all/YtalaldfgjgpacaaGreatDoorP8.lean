import Derived.Test.YtalaldfgjgpacaaGreatDoorP7
namespace Go.Proofs.YtalaldfgjgpacaaGreatDoor
set_option linter.unusedVariables false
set_option linter.unusedSimpArgs false
open Go.RowKit
attribute [local go_sem ↓] Go.wp_at_zero Go.wp_at_succ

theorem infoPp : (Tryz.prog.info? 47).map (fun i => (i.zero, i.size, i.bytes)) = some (some (.pointer none), 1, 8) := by kernel_rfl

def OpR.arr (o : OpR) : Array Value := opArr o.kind o.r o.t o.a o.b o.c o.s

/-- What the calls of a pair do, of the kinds up to hi. -/
structure Does (hi : Int) : Prop where
  client : ∀ (o : OpR), 3 ≤ o.kind → o.kind ≤ 7 → o.kind ≤ hi → ∀ (base B : Nat) (d : PD) (w : World), PairAt base B w d → base ≤ w.heap.size → B ≤ 100000000 → o.s.size ≤ maxLen → Tab Tryz.prog w →
    Calls Tryz.prog 22 #[.pointer (some ⟨d.pb, 0, none⟩), .agg o.arr] w fun e w' => e = .returned (.bool true) ∧ PStep base (B + 1) d w w'
  other : ∀ (o : OpR), 1 ≤ o.kind → o.kind ≠ 1 → o.kind ≠ 10 → ¬ (3 ≤ o.kind ∧ o.kind ≤ 7) → o.kind ≤ hi → ∀ (base B : Nat) (d : PD) (w : World), PairAt base B w d → base ≤ w.heap.size → B ≤ 100000000 → o.s.size ≤ maxLen → Tab Tryz.prog w →
    Calls Tryz.prog 23 #[.pointer (some ⟨d.pb, 0, none⟩), .agg o.arr] w fun e w' => e = .returned (.bool true) ∧ PStep base (B + 1) d w w'
  begin : ∀ (o : OpR), (o.kind = 1 ∨ o.kind = 10) → o.kind ≤ hi → ∀ (base B : Nat) (w : World), base ≤ w.heap.size → B ≤ 100000000 → o.s.size ≤ maxLen → Tab Tryz.prog w →
    Calls Tryz.prog 20 #[.agg o.arr] w fun e w' => ∃ g, e = .returned (.tuple #[.pointer (some ⟨g, 0, none⟩), .bool true]) ∧ Blw w w' ∧
      (w'.heap[g]? = some (.cells #[.pointer none, .pointer none] 52) ∨ ∃ d : PD, d.pb = g ∧ PairAt base (B + 1) w' d ∧ w.heap.size ≤ d.b ∧ w.heap.size ≤ d.cb ∧ d.lt.ownBlock = none)

theorem does6 : Does 6 where
  client o h3 h7 h6 base B d w h hb hB hs ht := by
    obtain ⟨kd, r, t, a, b, c, s⟩ := o
    simp only at h3 h7 h6 hs
    have : kd = 3 ∨ kd = 4 ∨ kd = 5 ∨ kd = 6 := by omega
    rcases this with rfl | rfl | rfl | rfl
    · exact client3 base B d r t a b c s w h hb (by omega) hs ht
    · exact client4 base B d r t a b c s w h hb (by omega) hs ht
    · exact client5 base B d r t a b c s w h hb (by omega) hs ht
    · exact client6 base B d r t a b c s w h hb (by omega) hs ht
  other o h1 n1 n10 n37 h6 base B d w h hb hB hs ht := by
    obtain ⟨kd, r, t, a, b, c, s⟩ := o
    simp only at h1 n1 n10 n37 h6
    have : kd = 2 := by omega
    subst this
    exact other2 base B d r t a b c s w h
  begin o hk h6 base B w hb hB hs ht := by
    obtain ⟨kd, r, t, a, b, c, s⟩ := o
    simp only at hk h6
    have : kd = 1 := by omega
    subst this
    cases hn : newOk a b
    · refine (begin1_no r t a b c s w hn).mono ?_
      rintro e w' ⟨g, he, h1, h2⟩
      exact ⟨g, he, h2, .inl h1⟩
    · obtain ⟨me, n, rfl, rfl, hm, hn3⟩ := newOk_nat hn
      refine (begin1_yes base (B + 1) r t c me n s w hb hm hn3).mono ?_
      rintro e w' ⟨d, he, h1, h2, h3, h4, h5⟩
      exact ⟨d.pb, he, h2, .inr ⟨d, rfl, h1, h3, h4, h5⟩⟩

theorem own_lt {base B : Nat} {w : World} {d : PD} (h : PairAt base B w d) {k : Nat} (hk : d.own k) : k < w.heap.size := by
  rcases hk with rfl | rfl | e | rfl
  · exact lt_of_blk h.b
  · obtain ⟨C, hC⟩ := h.cb.blk; exact lt_of_blk hC
  · exact (h.cb.lateBlk e).1
  · exact lt_of_blk h.cb.ackBlk

set_option maxRecDepth 100000 in
set_option maxHeartbeats 8000000 in
theorem plays_walk (ops : Nat → OpR) (len cap sb off : Nat) (lo hi : Int) (looks : Bool) (w : World) (hD : Does hi) (hl : len * 64 ≤ 140737488351232) (hs : ∀ i, i < len → (ops i).s.size ≤ 140737488355328) (hr : ∀ i, i < len → -9223372036854775808 ≤ (ops i).r ∧ (ops i).r ≤ 9223372036854775807) (h : Lies ops len sb off w) (hsb : sb < w.heap.size) (ht : Tab Tryz.prog w) :
    Calls Tryz.prog 13 #[.slice (some ⟨sb, off, none⟩) len cap, .int .i64 lo, .int .i64 hi, .bool looks] w fun e w' => e = .returned (.bool true) ∧ Blw w w' := by
  have HSM := hid (small_any ops len cap sb off w (by unfold maxLen; omega) hs h)
  have HL := hid h
  have HT := hid ht
  have HR := hid hr
  have HDo := hid hD
  clear h ht hr hD
  go_enter Tryz.func13, Tryz.ntmps13
  go_wp2_with fail
  refine HSM.out.mono ?_
  rintro e w2 ⟨he, hw2⟩
  subst w2
  rcases he with ⟨rfl, hlen⟩ | rfl
  · go_wp2_with fail
    go_loopw [10, 11] (fun v i wr => ∃ (k : Nat) (l : List PD), k ≤ len ∧ i = .int .i64 k ∧ l.length ≤ k ∧ PInv w wr v l k) (fun _ i _ => len - (intOf i).toNat)
    case atStart => exact ⟨0, [], by omega, rfl, by simp, PInv.start w⟩
    case round =>
      obtain ⟨k, l, hk, rfl, hll, hI⟩ := hrel
      have HI := hid hI
      obtain ⟨ao, lc, hv, hop⟩ := hI.op
      obtain ⟨n, hn⟩ : ∃ n, n = l.length := ⟨_, rfl⟩
      rw [← hn] at hv hll
      subst hv
      have OP := hid hop
      have HNl := hid hn
      clear hn
      have hsz0 := hI.bl.sz
      clear hI hop
      by_cases hlt : k < len
      · obtain ⟨c0, c1, c2, c3, c4, c5, c6⟩ := (HL.out.on (HI.out.bl.bk sb hsb)) k hlt
        have hsk := hs k hlt
        have hrk := HR.out k hlt
        have HTk := hid (HT.out.blw HI.out.bl)
        obtain ⟨o, ho⟩ : ∃ o, o = ops k := ⟨_, rfl⟩
        rw [← ho] at c0 c1 c2 c3 c4 c5 c6 hsk hrk
        clear ho
        have BX : Hid (Blw wr (wr.alloc (.cells o.arr 46))) := (Blw.rfl _).al _
        have HW := hid (hp_new wr (.cells o.arr 46))
        obtain ⟨kd, r, t, a, b, c, s⟩ := o
        simp only [OpR.arr, opArr] at *
        by_cases g1 : kd < 1
        · have d1 : decide (kd < 1) = true := by simpa using g1
          clear g1
          as_aux_lemma =>
            go_wp2_with fail
            go_roundw
            case rel => exact ⟨k + 1, l, by omega, by go_num, by have := HNl.out; omega, HI.out.on BX.out (by omega)⟩
            case measure => simp [intOf]; omega
        · have d1 : decide (kd < 1) = false := by simpa using g1
          by_cases g2 : hi < kd
          · have d2 : decide (hi < kd) = true := by simpa using g2
            clear g1 g2
            as_aux_lemma =>
              go_wp2_with fail
              go_roundw
              case rel => exact ⟨k + 1, l, by omega, by go_num, by have := HNl.out; omega, HI.out.on BX.out (by omega)⟩
              case measure => simp [intOf]; omega
          · have d2 : decide (hi < kd) = false := by simpa using g2
            by_cases gb : kd = 1 ∨ kd = 10
            · have GB := hid gb
              obtain ⟨i0, hi0, hz0, hz1, hz2⟩ := info_parts infoPp
              have HBg := hid (HDo.out.begin ⟨kd, r, t, a, b, c, s⟩ gb (by show kd ≤ hi; omega) w.heap.size k _ (Nat.le_trans hsz0 BX.out.sz) (by omega) (by unfold maxLen; show s.size ≤ _; omega) (HTk.out.blw BX.out))
              simp only [OpR.arr, opArr] at HBg
              clear g1 g2
              rcases gb with rfl | rfl
              · as_aux_lemma =>
                  go_wp2_with fail
                  refine HBg.out.mono ?_
                  rintro e w3 ⟨g, rfl, b3, hcase⟩
                  have B3 := hid (BX.out.tr b3)
                  have HOP3 := hid (b3.bk' HW.out)
                  rcases hcase with hc | ⟨d, rfl, hp, n1, n2, n3⟩
                  · have e0 : w3.cell? ⟨g, 0, none⟩ = some (.pointer none) := blk_cell hc 0
                    have HC3 := hid hc
                    clear hc b3 c0 c1 c2 c3 c4 c5 c6
                    have hop3 : w3.cell? ⟨wr.heap.size, 0, none⟩ = some (.int .i64 1) := blk_cell HOP3.out 0
                    cases hlo : decide (lo ≤ 1)
                    · go_wp2
                      go_roundw
                      case rel => exact ⟨k + 1, l, by omega, by go_num, by have := HNl.out; omega, HI.out.on B3.out (by omega)⟩
                      case measure => simp [intOf]; omega
                    · go_wp2
                      go_roundw
                      case rel => exact ⟨k + 1, l, by omega, by go_num, by have := HNl.out; omega, HI.out.on B3.out (by omega)⟩
                      case measure => simp [intOf]; omega
                  · have e0 : w3.cell? ⟨d.pb, 0, none⟩ = some (.pointer (some ⟨d.b, 0, none⟩)) := blk_cell hp.pb 0
                    have e1 : w3.cell? ⟨d.pb, 1, none⟩ = some (.pointer (some ⟨d.cb, 0, none⟩)) := blk_cell hp.pb 1
                    have OW := hid (own_on HI.out.own (fun g C _ hC => B3.out.bk g (lt_of_blk hC)))
                    have hop3 : w3.cell? ⟨wr.heap.size, 0, none⟩ = some (.int .i64 1) := blk_cell HOP3.out 0
                    have PPP := hid (And.intro hp (And.intro n1 (And.intro n2 n3)))
                    have hsz3 := Nat.le_trans hsz0 B3.out.sz
                    clear hp n1 n2 n3 b3 c0 c1 c2 c3 c4 c5 c6
                    go_wp2_with (first | (at_builtin; refine wpList_append_own _ rfl (.tmp 67) (.tmp 69) 44 rfl w.heap.size 47 i0 (.pointer none) 1 8 Tryz.underlying44 hi0 hz0 hz1 hz2 rfl (by decide) _ _ _ rfl (World.ownsRow.alloc OW.out _) ⟨w3.heap.size, 0, none⟩ 1 1 [.pointer (some ⟨d.pb, 0, none⟩)] rfl rfl (one_cell_at _ _ _) (by intro u hu; simp at hu; subst hu; rfl) (by have := HNl.out; unfold maxLen; omega) (by have := HNl.out; omega) (by simp; omega) ?_))
                    intro v4 w4 ho4 hg4 _
                    have HI4 := hid (PInv.snoc (HI.out.on (Blw.rfl _) (Nat.le_succ k)) B3.out PPP.out.1 (Nat.le_trans BX.out.sz PPP.out.2.1) (Nat.le_trans BX.out.sz PPP.out.2.2.1) PPP.out.2.2.2 ho4 hg4)
                    have hop4 : w4.cell? ⟨wr.heap.size, 0, none⟩ = some (.int .i64 1) := blk_cell ((hg4.block wr.heap.size (by have := lt_of_blk HOP3.out; simp; omega) (fun e => by have := World.ownsRow.lt HI.out.own _ e.symm; omega)).trans (hp_old _ (lt_of_blk HOP3.out) HOP3.out)) 0
                    clear ho4 hg4 e0 e1 hop3
                    cases hlo : decide (lo ≤ 1)
                    · go_wp2
                      go_roundw
                      case rel => exact ⟨k + 1, l ++ [d], by omega, by go_num, by have := HNl.out; simp; omega, HI4.out⟩
                      case measure => simp [intOf]; omega
                    · go_wp2
                      go_roundw
                      case rel => exact ⟨k + 1, l ++ [d], by omega, by go_num, by have := HNl.out; simp; omega, HI4.out⟩
                      case measure => simp [intOf]; omega
              · as_aux_lemma =>
                  go_wp2_with fail
                  refine HBg.out.mono ?_
                  rintro e w3 ⟨g, rfl, b3, hcase⟩
                  have B3 := hid (BX.out.tr b3)
                  have HOP3 := hid (b3.bk' HW.out)
                  rcases hcase with hc | ⟨d, rfl, hp, n1, n2, n3⟩
                  · have e0 : w3.cell? ⟨g, 0, none⟩ = some (.pointer none) := blk_cell hc 0
                    have HC3 := hid hc
                    clear hc b3 c0 c1 c2 c3 c4 c5 c6
                    have hop3 : w3.cell? ⟨wr.heap.size, 0, none⟩ = some (.int .i64 10) := blk_cell HOP3.out 0
                    cases hlo : decide (lo ≤ 10)
                    · go_wp2
                      go_roundw
                      case rel => exact ⟨k + 1, l, by omega, by go_num, by have := HNl.out; omega, HI.out.on B3.out (by omega)⟩
                      case measure => simp [intOf]; omega
                    · go_wp2
                      go_roundw
                      case rel => exact ⟨k + 1, l, by omega, by go_num, by have := HNl.out; omega, HI.out.on B3.out (by omega)⟩
                      case measure => simp [intOf]; omega
                  · have e0 : w3.cell? ⟨d.pb, 0, none⟩ = some (.pointer (some ⟨d.b, 0, none⟩)) := blk_cell hp.pb 0
                    have e1 : w3.cell? ⟨d.pb, 1, none⟩ = some (.pointer (some ⟨d.cb, 0, none⟩)) := blk_cell hp.pb 1
                    have OW := hid (own_on HI.out.own (fun g C _ hC => B3.out.bk g (lt_of_blk hC)))
                    have hop3 : w3.cell? ⟨wr.heap.size, 0, none⟩ = some (.int .i64 10) := blk_cell HOP3.out 0
                    have PPP := hid (And.intro hp (And.intro n1 (And.intro n2 n3)))
                    have hsz3 := Nat.le_trans hsz0 B3.out.sz
                    clear hp n1 n2 n3 b3 c0 c1 c2 c3 c4 c5 c6
                    go_wp2_with (first | (at_builtin; refine wpList_append_own _ rfl (.tmp 67) (.tmp 69) 44 rfl w.heap.size 47 i0 (.pointer none) 1 8 Tryz.underlying44 hi0 hz0 hz1 hz2 rfl (by decide) _ _ _ rfl (World.ownsRow.alloc OW.out _) ⟨w3.heap.size, 0, none⟩ 1 1 [.pointer (some ⟨d.pb, 0, none⟩)] rfl rfl (one_cell_at _ _ _) (by intro u hu; simp at hu; subst hu; rfl) (by have := HNl.out; unfold maxLen; omega) (by have := HNl.out; omega) (by simp; omega) ?_))
                    intro v4 w4 ho4 hg4 _
                    have HI4 := hid (PInv.snoc (HI.out.on (Blw.rfl _) (Nat.le_succ k)) B3.out PPP.out.1 (Nat.le_trans BX.out.sz PPP.out.2.1) (Nat.le_trans BX.out.sz PPP.out.2.2.1) PPP.out.2.2.2 ho4 hg4)
                    have hop4 : w4.cell? ⟨wr.heap.size, 0, none⟩ = some (.int .i64 10) := blk_cell ((hg4.block wr.heap.size (by have := lt_of_blk HOP3.out; simp; omega) (fun e => by have := World.ownsRow.lt HI.out.own _ e.symm; omega)).trans (hp_old _ (lt_of_blk HOP3.out) HOP3.out)) 0
                    clear ho4 hg4 e0 e1 hop3
                    cases hlo : decide (lo ≤ 10)
                    · go_wp2
                      go_roundw
                      case rel => exact ⟨k + 1, l ++ [d], by omega, by go_num, by have := HNl.out; simp; omega, HI4.out⟩
                      case measure => simp [intOf]; omega
                    · go_wp2
                      go_roundw
                      case rel => exact ⟨k + 1, l ++ [d], by omega, by go_num, by have := HNl.out; simp; omega, HI4.out⟩
                      case measure => simp [intOf]; omega
            · have q1 : (kd == 1) = false := by simp; omega
              have q10 : (kd == 10) = false := by simp; omega
              by_cases hl0 : n = 0
              · subst hl0
                clear g1 g2 gb
                as_aux_lemma =>
                  cases hlo : decide (lo ≤ kd)
                  · cases looks
                    · go_wp2
                      go_roundw
                      case rel => exact ⟨k + 1, l, by omega, by go_num, by have := HNl.out; omega, HI.out.on BX.out (by omega)⟩
                      case measure => simp [intOf]; omega
                    · cases h2 : (kd == 2)
                      · cases h8 : (kd == 8)
                        · go_wp2
                          go_roundw
                          case rel => exact ⟨k + 1, l, by omega, by go_num, by have := HNl.out; omega, HI.out.on BX.out (by omega)⟩
                          case measure => simp [intOf]; omega
                        · go_wp2
                          go_roundw
                          case rel => exact ⟨k + 1, l, by omega, by go_num, by have := HNl.out; omega, HI.out.on BX.out (by omega)⟩
                          case measure => simp [intOf]; omega
                      · go_wp2
                        go_roundw
                        case rel => exact ⟨k + 1, l, by omega, by go_num, by have := HNl.out; omega, HI.out.on BX.out (by omega)⟩
                        case measure => simp [intOf]; omega
                  · go_wp2
                    go_roundw
                    case rel => exact ⟨k + 1, l, by omega, by go_num, by have := HNl.out; omega, HI.out.on BX.out (by omega)⟩
                    case measure => simp [intOf]; omega
              · have hpos : 0 < n := by omega
                obtain ⟨p0, p1⟩ := pickN_bd r (n : Int) (by omega)
                obtain ⟨j, hjp⟩ : ∃ j : Nat, pickN r (n : Int) = (j : Int) := ⟨(pickN r (n : Int)).toNat, by omega⟩
                have hjn : j < n := by omega
                have hj : j < l.length := by have := HNl.out; omega
                have HPk := hid (fun wx => pick_any r (n : Int) wx hrk.1 hrk.2 (by omega) (by omega))
                rw [hjp] at HPk
                obtain ⟨g, rfl, hcg⟩ := OP.out j hj
                obtain ⟨pbj, hpbj⟩ : ∃ x, x = (l[j]'hj).pb := ⟨_, rfl⟩
                have BL0 : (wr.alloc (.cells #[.int .i64 kd, .int .i64 r, .int .i64 t, .int .i64 a, .int .i64 b, .int .i64 c, .string s] 46)).cell? ⟨g, j, none⟩ = some (.pointer (some ⟨pbj, 0, none⟩)) := by rw [hpbj]; exact (cell_al _ (World.block_lt_of_cell? wr ⟨g, j, none⟩ hcg)).trans hcg
                have BL1 : j < n := hjn
                have HJ := hid hj
                have HPB := hid hpbj
                clear hpbj
                clear hcg p0 p1 hjp hl0
                by_cases g37 : 3 ≤ kd ∧ kd ≤ 7
                · have d3 : decide (3 ≤ kd) = true := by simp; omega
                  have d7 : decide (kd ≤ 7) = true := by simp; omega
                  have GG := hid (show 3 ≤ kd ∧ kd ≤ 7 ∧ kd ≤ hi from ⟨g37.1, g37.2, by omega⟩)
                  clear g1 g2 g37 gb
                  as_aux_lemma =>
                    go_wp2_with fail
                    refine (HPk.out _).mono ?_
                    rintro e w3 ⟨rfl, hw3⟩
                    subst w3
                    go_wp2_with fail
                    have HCt := HDo.out.client ⟨kd, r, t, a, b, c, s⟩ GG.out.1 GG.out.2.1 GG.out.2.2 w.heap.size k (l[j]'HJ.out) _ ((HI.out.all _ (List.getElem_mem HJ.out)).on BX.out k (Nat.le_refl _)) (Nat.le_trans hsz0 BX.out.sz) (by omega) (by unfold maxLen; show s.size ≤ _; omega) (HTk.out.blw BX.out)
                    rw [← HPB.out] at HCt
                    refine HCt.mono ?_
                    rintro e w4 ⟨rfl, h4⟩
                    have hop4 : w4.cell? ⟨wr.heap.size, 0, none⟩ = some (.int .i64 kd) := blk_cell ((h4.bs.block wr.heap.size (lt_of_blk HW.out) (fun e => by have := own_lt (HI.out.all _ (List.getElem_mem HJ.out)) e; omega)).trans HW.out) 0
                    obtain ⟨l', hl', hI'⟩ := HI.out.step BX.out j HJ.out (Nat.le_succ k) h4
                    have HI' := hid hI'
                    clear hI' h4 BL0 BL1 c0 c1 c2 c3 c4 c5 c6
                    cases hlo : decide (lo ≤ kd)
                    · cases looks
                      · go_wp2
                        go_roundw
                        case rel => exact ⟨k + 1, l', by omega, by go_num, by have := HNl.out; omega, HI'.out⟩
                        case measure => simp [intOf]; omega
                      · cases h2 : (kd == 2)
                        · cases h8 : (kd == 8)
                          · go_wp2
                            go_roundw
                            case rel => exact ⟨k + 1, l', by omega, by go_num, by have := HNl.out; omega, HI'.out⟩
                            case measure => simp [intOf]; omega
                          · go_wp2
                            go_roundw
                            case rel => exact ⟨k + 1, l', by omega, by go_num, by have := HNl.out; omega, HI'.out⟩
                            case measure => simp [intOf]; omega
                        · go_wp2
                          go_roundw
                          case rel => exact ⟨k + 1, l', by omega, by go_num, by have := HNl.out; omega, HI'.out⟩
                          case measure => simp [intOf]; omega
                    · go_wp2
                      go_roundw
                      case rel => exact ⟨k + 1, l', by omega, by go_num, by have := HNl.out; omega, HI'.out⟩
                      case measure => simp [intOf]; omega
                · have hcc : Hid (1 ≤ kd ∧ kd ≠ 1 ∧ kd ≠ 10 ∧ ¬ (3 ≤ kd ∧ kd ≤ 7) ∧ kd ≤ hi) := ⟨by omega, by omega, by omega, g37, by omega⟩
                  by_cases g3 : 3 ≤ kd
                  · have d3 : decide (3 ≤ kd) = true := by simpa using g3
                    have d7 : decide (kd ≤ 7) = false := by simp; omega
                    clear g1 g2 g37 gb g3
                    as_aux_lemma =>
                      go_wp2_with fail
                      refine (HPk.out _).mono ?_
                      rintro e w3 ⟨rfl, hw3⟩
                      subst w3
                      go_wp2_with fail
                      have HCt := HDo.out.other ⟨kd, r, t, a, b, c, s⟩ hcc.out.1 hcc.out.2.1 hcc.out.2.2.1 hcc.out.2.2.2.1 hcc.out.2.2.2.2 w.heap.size k (l[j]'HJ.out) _ ((HI.out.all _ (List.getElem_mem HJ.out)).on BX.out k (Nat.le_refl _)) (Nat.le_trans hsz0 BX.out.sz) (by omega) (by unfold maxLen; show s.size ≤ _; omega) (HTk.out.blw BX.out)
                      rw [← HPB.out] at HCt
                      refine HCt.mono ?_
                      rintro e w4 ⟨rfl, h4⟩
                      have hop4 : w4.cell? ⟨wr.heap.size, 0, none⟩ = some (.int .i64 kd) := blk_cell ((h4.bs.block wr.heap.size (lt_of_blk HW.out) (fun e => by have := own_lt (HI.out.all _ (List.getElem_mem HJ.out)) e; omega)).trans HW.out) 0
                      obtain ⟨l', hl', hI'⟩ := HI.out.step BX.out j HJ.out (Nat.le_succ k) h4
                      have HI' := hid hI'
                      clear hI' h4 BL0 BL1 c0 c1 c2 c3 c4 c5 c6
                      cases hlo : decide (lo ≤ kd)
                      · cases looks
                        · go_wp2
                          go_roundw
                          case rel => exact ⟨k + 1, l', by omega, by go_num, by have := HNl.out; omega, HI'.out⟩
                          case measure => simp [intOf]; omega
                        · cases h2 : (kd == 2)
                          · cases h8 : (kd == 8)
                            · go_wp2
                              go_roundw
                              case rel => exact ⟨k + 1, l', by omega, by go_num, by have := HNl.out; omega, HI'.out⟩
                              case measure => simp [intOf]; omega
                            · go_wp2
                              go_roundw
                              case rel => exact ⟨k + 1, l', by omega, by go_num, by have := HNl.out; omega, HI'.out⟩
                              case measure => simp [intOf]; omega
                          · go_wp2
                            go_roundw
                            case rel => exact ⟨k + 1, l', by omega, by go_num, by have := HNl.out; omega, HI'.out⟩
                            case measure => simp [intOf]; omega
                      · go_wp2
                        go_roundw
                        case rel => exact ⟨k + 1, l', by omega, by go_num, by have := HNl.out; omega, HI'.out⟩
                        case measure => simp [intOf]; omega
                  · have d3 : decide (3 ≤ kd) = false := by simpa using g3
                    clear g1 g2 g37 gb g3
                    as_aux_lemma =>
                      go_wp2_with fail
                      refine (HPk.out _).mono ?_
                      rintro e w3 ⟨rfl, hw3⟩
                      subst w3
                      go_wp2_with fail
                      have HCt := HDo.out.other ⟨kd, r, t, a, b, c, s⟩ hcc.out.1 hcc.out.2.1 hcc.out.2.2.1 hcc.out.2.2.2.1 hcc.out.2.2.2.2 w.heap.size k (l[j]'HJ.out) _ ((HI.out.all _ (List.getElem_mem HJ.out)).on BX.out k (Nat.le_refl _)) (Nat.le_trans hsz0 BX.out.sz) (by omega) (by unfold maxLen; show s.size ≤ _; omega) (HTk.out.blw BX.out)
                      rw [← HPB.out] at HCt
                      refine HCt.mono ?_
                      rintro e w4 ⟨rfl, h4⟩
                      have hop4 : w4.cell? ⟨wr.heap.size, 0, none⟩ = some (.int .i64 kd) := blk_cell ((h4.bs.block wr.heap.size (lt_of_blk HW.out) (fun e => by have := own_lt (HI.out.all _ (List.getElem_mem HJ.out)) e; omega)).trans HW.out) 0
                      obtain ⟨l', hl', hI'⟩ := HI.out.step BX.out j HJ.out (Nat.le_succ k) h4
                      have HI' := hid hI'
                      clear hI' h4 BL0 BL1 c0 c1 c2 c3 c4 c5 c6
                      cases hlo : decide (lo ≤ kd)
                      · cases looks
                        · go_wp2
                          go_roundw
                          case rel => exact ⟨k + 1, l', by omega, by go_num, by have := HNl.out; omega, HI'.out⟩
                          case measure => simp [intOf]; omega
                        · cases h2 : (kd == 2)
                          · cases h8 : (kd == 8)
                            · go_wp2
                              go_roundw
                              case rel => exact ⟨k + 1, l', by omega, by go_num, by have := HNl.out; omega, HI'.out⟩
                              case measure => simp [intOf]; omega
                            · go_wp2
                              go_roundw
                              case rel => exact ⟨k + 1, l', by omega, by go_num, by have := HNl.out; omega, HI'.out⟩
                              case measure => simp [intOf]; omega
                          · go_wp2
                            go_roundw
                            case rel => exact ⟨k + 1, l', by omega, by go_num, by have := HNl.out; omega, HI'.out⟩
                            case measure => simp [intOf]; omega
                      · go_wp2
                        go_roundw
                        case rel => exact ⟨k + 1, l', by omega, by go_num, by have := HNl.out; omega, HI'.out⟩
                        case measure => simp [intOf]; omega
      · have hkn : k = len := by omega
        subst hkn
        have BL := hid HI.out.bl
        go_wp2
        go_ret
        exact ⟨rfl, BL.out⟩
  · go_wp2
    go_ret
    exact ⟨rfl, Blw.rfl _⟩
end Go.Proofs.YtalaldfgjgpacaaGreatDoor
