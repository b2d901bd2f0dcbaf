import Derived.Test.YtalaldfgjgpacaaGreatDoorTE
import Derived.Test.YtalaldfgjgpacaaGreatDoorTF
import Derived.Test.YtalaldfgjgpacaaGreatDoorUC
import Derived.BigQuiet
import Derived.Deep.RegionHeld3
namespace Go.Proofs.YtalaldfgjgpacaaGreatDoor
set_option linter.unusedVariables false
set_option linter.unusedSimpArgs false
open Go.RowKit
attribute [local go_sem ↓] Go.wp_at_zero Go.wp_at_succ

/-- The document's replica behind an answer. -/
structure AckTo (cb me n : Nat) (p : Pc) (x : Ext) (lt : Value) (w w' : World) : Prop where
  at_ : RefAt w' cb me n p x lt
  bs : Bs2 (fun k => k = cb - 1) w w'
theorem AckTo.same {cb me n : Nat} {p : Pc} {x : Ext} {lt : Value} {w w' : World} (h : RefAt w cb me n p x lt) (hb : Blw w w') : AckTo cb me n p x lt w w' := ⟨h.on hb, hb.b2 _⟩

theorem acksA_set (n : Nat) (f : Nat → Nat) (r k : Nat) (h : r < n) : (acksA n f).setIfInBounds r (.int .i64 k) = acksA n (fun i => if i = r then k else f i) := by
  refine Array.ext_getElem? fun j => ?_
  rw [Array.getElem?_setIfInBounds]
  by_cases hj : j < n
  · have e2 := acks_at n (fun i => if i = r then k else f i) j hj
    rw [e2]
    by_cases e : r = j
    · subst e; rw [if_pos rfl, if_pos (by simp [acksA]; omega)]; simp
    · rw [if_neg e, acks_at n f j hj]; simp [show ¬ j = r from fun h => e h.symm]
  · rw [if_neg (by omega), Array.getElem?_eq_none (by simp [acksA]; omega), Array.getElem?_eq_none (by simp [acksA]; omega)]
theorem AckTo.put {cb me n : Nat} {p : Pc} {x : Ext} {lt : Value} {w : World} (h : RefAt w cb me n p x lt) (r k : Nat) (hr : r < n) : AckTo cb me n p (x.setAck r k) lt w (w.setCell ⟨cb - 1, r, none⟩ (.int .i64 k)) := by
  obtain ⟨a, b, ac, D, E, ln, ls, h1, h2, h3, h4, h5, h6⟩ := h.h
  have hp := h5.pos
  refine ⟨⟨a, b, ac, D, E, ln, ls, ?_, h2.sc h5.ack (by decide) _, h3.sc h5.ack (by decide) _, h4.sc h5.ack (by decide) _ _, ⟨h5.ln, h5.lats.sc h5.ack (by decide) _ _, hp, h5.ac, ?_⟩, h6⟩, (Bs2.rfl _ w).sc _ _ _ (.inl rfl)⟩
  · exact (Below.heap_setCell w ⟨cb - 1, r, none⟩ _ cb (by simp; omega)).trans h1
  · rw [heap_setCell_self h5.ack, acksA_set _ _ _ _ hr]; rfl

set_option maxRecDepth 100000 in
set_option maxHeartbeats 4000000 in
theorem racked_len (cb : Nat) (s : ByteArray) (w : World) (h : s.size ≠ 5) :
    Calls Tryz.prog 59 #[.pointer (some ⟨cb, 0, none⟩), .string s] w fun e w' => e = .returned (.int .i64 5) ∧ w' = w := by
  have h1 : ((s.size : Int) == 5) = false := by rw [beq_eq_false_iff_ne]; omega
  have h2 : ((s.size : Int) != 5) = true := by rw [bne, h1]; rfl
  go_enter Tryz.func59, Tryz.ntmps59
  go_wp2
  go_ret
  exact ⟨rfl, rfl⟩

set_option maxRecDepth 100000 in
set_option maxHeartbeats 8000000 in
theorem racked_any (cb me n : Nat) (p : Pc) (x : Ext) (lt : Value) (c0 c1 c2 c3 c4 : UInt8) (ok fm : Bool) (f cn : Nat) (er : Int) (x' : Ext) (w : World) (hok : ok = (hdOk c1 c2 c3 c4 && ([c0] == [(65 : UInt8)]))) (hf : f = c1.toNat - 48) (hc : cn = (c3.toNat - 48) * 10 + (c4.toNat - 48)) (hfm : fm = forMe me n f (c2.toNat - 48)) (hS : AckSpec ok fm f cn x er x') (hh : x.had < 100) (hk : ∀ r, x.ack r ≤ x.had) (hn : n ≤ 3)
    (hR : RefAt w cb me n p x lt) (hc0 : c0.toNat < 256) :
    Calls Tryz.prog 59 #[.pointer (some ⟨cb, 0, none⟩), .string ⟨#[c0, c1, c2, c3, c4]⟩] w fun e w' => e = .returned (.int .i64 er) ∧ AckTo cb me n p x' lt w w' := by
  obtain ⟨y, hy⟩ : ∃ y : ByteArray, y = ⟨#[c0, c1, c2, c3, c4]⟩ := ⟨_, rfl⟩
  have hys : y.size = 5 := by rw [hy]; rfl
  have i0 : 0 < y.size := by omega
  have i1 : 1 < y.size := by omega
  have i2 : 2 < y.size := by omega
  have i3 : 3 < y.size := by omega
  have i4 : 4 < y.size := by omega
  have hb0 : y[0]'i0 = c0 := by subst hy; rfl
  have hb1 : y[1]'i1 = c1 := by subst hy; rfl
  have hb2 : y[2]'i2 = c2 := by subst hy; rfl
  have hb3 : y[3]'i3 = c3 := by subst hy; rfl
  have hb4 : y[4]'i4 = c4 := by subst hy; rfl
  have HX3 : Hid (y.extract 3 5 = ⟨[c3, c4].toArray⟩) := by rw [hy]; exact bs_extract [c0, c1, c2, c3, c4] 3 5
  rw [← hy]
  clear hy
  have HRef := hid hR
  have I1 := hid (fun wx => isReplica_any c1 wx)
  have I2 := hid (fun wx => isReplica_any c2 wx)
  have I3 := hid (fun wx => isDigit_any c3 wx)
  have I4 := hid (fun wx => isDigit_any c4 wx)
  have hl5 : ((y.size : Int) == 5) = true := by rw [beq_iff_eq]; omega
  have hl5' : ((y.size : Int) != 5) = false := by rw [bne, hl5]; rfl
  by_cases h0 : c0 = 65
  · have d0 : ((c0.toNat : Int) == 65) = true := by subst h0; rfl
    have d0' : ((c0.toNat : Int) != 65) = false := by rw [bne, d0]; rfl
    have e0 : ([c0] == [(65 : UInt8)]) = true := by subst h0; rfl
    rw [e0, Bool.and_true] at hok
    have HOK := hid hok
    clear h0 e0
    cases k1 : isRepB c1
    · rw [k1] at I1
      obtain ⟨e1, e2⟩ := hS.h5 (by rw [hok]; simp [hdOk, k1])
      subst e1 e2
      clear hok hS hf hc hfm HOK hR
      go_enter Tryz.func59, Tryz.ntmps59
      go_wp2_with fail
      refine (I1.out _).mono ?_
      rintro e w1 ⟨rfl, hw1⟩
      subst w1
      go_wp2
      go_ret
      exact ⟨rfl, AckTo.same HRef.out (Blw.rfl _)⟩
    · cases k2 : isRepB c2
      · rw [k1] at I1
        rw [k2] at I2
        obtain ⟨e1, e2⟩ := hS.h5 (by rw [hok]; simp [hdOk, k2])
        subst e1 e2
        clear hok hS hf hc hfm HOK hR
        go_enter Tryz.func59, Tryz.ntmps59
        go_wp2_with fail
        refine (I1.out _).mono ?_
        rintro e w1 ⟨rfl, hw1⟩
        subst w1
        go_wp2_with fail
        refine (I2.out _).mono ?_
        rintro e w1 ⟨rfl, hw1⟩
        subst w1
        go_wp2
        go_ret
        exact ⟨rfl, AckTo.same HRef.out (Blw.rfl _)⟩
      · cases k3 : isDigB c3
        · rw [k1] at I1
          rw [k2] at I2
          rw [k3] at I3
          obtain ⟨e1, e2⟩ := hS.h5 (by rw [hok]; simp [hdOk, k3])
          subst e1 e2
          clear hok hS hf hc hfm HOK hR
          go_enter Tryz.func59, Tryz.ntmps59
          go_wp2_with fail
          refine (I1.out _).mono ?_
          rintro e w1 ⟨rfl, hw1⟩
          subst w1
          go_wp2_with fail
          refine (I2.out _).mono ?_
          rintro e w1 ⟨rfl, hw1⟩
          subst w1
          go_wp2_with fail
          refine (I3.out _).mono ?_
          rintro e w1 ⟨rfl, hw1⟩
          subst w1
          go_wp2
          go_ret
          exact ⟨rfl, AckTo.same HRef.out (Blw.rfl _)⟩
        · cases k4 : isDigB c4
          · rw [k1] at I1
            rw [k2] at I2
            rw [k3] at I3
            rw [k4] at I4
            obtain ⟨e1, e2⟩ := hS.h5 (by rw [hok]; simp [hdOk, k4])
            subst e1 e2
            clear hok hS hf hc hfm HOK hR
            go_enter Tryz.func59, Tryz.ntmps59
            go_wp2_with fail
            refine (I1.out _).mono ?_
            rintro e w1 ⟨rfl, hw1⟩
            subst w1
            go_wp2_with fail
            refine (I2.out _).mono ?_
            rintro e w1 ⟨rfl, hw1⟩
            subst w1
            go_wp2_with fail
            refine (I3.out _).mono ?_
            rintro e w1 ⟨rfl, hw1⟩
            subst w1
            go_wp2_with fail
            refine (I4.out _).mono ?_
            rintro e w1 ⟨rfl, hw1⟩
            subst w1
            go_wp2
            go_ret
            exact ⟨rfl, AckTo.same HRef.out (Blw.rfl _)⟩
          · have OK : Hid (ok = true) := by show _ = _; rw [hok]; simp [hdOk, k1, k2, k3, k4]
            obtain ⟨a, b, ac, D, E, ln, ls, h1, h2, h3, h4, h5, h6⟩ := hR.h
            have HW := hid (fun wx hw => rwho_any cb me n a b x.had lt ac x.log c1 c2 wx k1 k2 hw)
            rw [← hf, ← hfm] at HW
            have HV := hid (fun wx => rvalue_any [c3, c4] wx (by simp) (fun j hj => by
              match j, hj with
              | 0, _ => exact k3
              | 1, _ => exact k4))
            have ecn : numTo [c3, c4] 2 = cn := by
              rw [hc]; simp [numTo]
            have hvl : ([c3, c4] : Bs).length = 2 := rfl
            rw [hvl, ecn] at HV
            obtain ⟨a1, a2⟩ := (isRepB_iff _).1 k1
            have a3 := (isDigB_iff _).1 k3
            have a4 := (isDigB_iff _).1 k4
            have hcn : cn < 100 := by omega
            have hf3 : f < 3 := by omega
            have hfi : ((c1.toNat : Int) - 48) = (f : Int) := by omega
            have H := hid h1
            rw [k1] at I1
            rw [k2] at I2
            rw [k3] at I3
            rw [k4] at I4
            have S := hid hS
            have HA := hid h5
            have HF := hid (And.intro hf hfm)
            have hkf := hk f
            have HKK := hid hk
            clear hok hS hc HOK hR h1 h2 h3 h4 h5 h6 ecn hvl hf hfm hk
            go_enter Tryz.func59, Tryz.ntmps59
            go_wp2_with fail
            refine (I1.out _).mono ?_
            rintro e w1 ⟨rfl, hw1⟩
            subst w1
            go_wp2_with fail
            refine (I2.out _).mono ?_
            rintro e w1 ⟨rfl, hw1⟩
            subst w1
            go_wp2_with fail
            refine (I3.out _).mono ?_
            rintro e w1 ⟨rfl, hw1⟩
            subst w1
            go_wp2_with fail
            refine (I4.out _).mono ?_
            rintro e w1 ⟨rfl, hw1⟩
            subst w1
            go_wp2_with fail
            go_quiet (first | (go_at_call 109; refine Calls.quiet_of_same (HW.out _ (show (World.drewN _ _).heap[cb]? = _ from H.out))))
            obtain ⟨w1, hw1⟩ : ∃ w1, w1 = w.drewN nq := ⟨_, rfl⟩
            rw [← hw1]
            have B1 : Hid (Blw w w1) := by show Blw w w1; rw [hw1]; exact Blw.drn (Blw.rfl _) _
            clear hw1
            have R1 := hid (HRef.out.on B1.out)
            cases fm
            · obtain ⟨e1, e2⟩ := S.out.h6 OK.out (by trivial)
              subst e1 e2
              go_wp2
              go_ret
              exact ⟨rfl, AckTo.same HRef.out B1.out⟩
            · have hfn : f < n := by
                have := HF.out.2.symm
                simp only [forMe, Bool.and_eq_true, decide_eq_true_eq] at this
                exact this.2.2
              have A1 := hid (HA.out.on B1.out)
              have H1 := hid (B1.out.bq H.out)
              have m4 := (ref_n H1.out).2.2.2.2.1
              have m6 := (ref_n H1.out).2.2.2.2.2.2.1
              rw [A1.out.ac] at m6
              have ck : w1.cell? ⟨cb - 1, f, none⟩ = some (.int .i64 (x.ack f)) := by rw [blk_cell A1.out.ack, acks_at _ _ _ hfn]
              have fz := blk_frozen A1.out.ack f
              by_cases hhd : x.had < cn
              · obtain ⟨e1, e2⟩ := S.out.h9 OK.out (by trivial) hhd
                have E2 := hid e2
                subst e1
                have d1 : decide ((x.had : Int) < (cn : Int)) = true := by simpa using hhd
                go_wp2_with fail
                rw [HX3.out]
                refine (HV.out _).mono ?_
                rintro e w2 ⟨rfl, hw2⟩
                subst w2
                go_wp2
                go_ret
                exact ⟨rfl, by rw [E2.out]; exact AckTo.same HRef.out B1.out⟩
              · have d1 : decide ((x.had : Int) < (cn : Int)) = false := by simpa using hhd
                by_cases hac : x.ack f < cn
                · obtain ⟨e1, e2⟩ := S.out.h1 OK.out (by trivial) (by omega) hac
                  have E2 := hid e2
                  subst e1
                  have d2 : decide ((x.ack f : Int) < (cn : Int)) = true := by simpa using hac
                  have FN := hid (AckTo.put R1.out f cn hfn)
                  go_wp2_with fail
                  rw [HX3.out]
                  refine (HV.out _).mono ?_
                  rintro e w2 ⟨rfl, hw2⟩
                  subst w2
                  go_wp2
                  go_ret
                  refine ⟨rfl, ?_⟩
                  rw [E2.out]
                  exact ⟨FN.out.at_, (B1.out.b2 _).tr (FN.out.bs.weak (fun i hi => .inl hi))⟩
                · obtain ⟨e1, e2⟩ := S.out.h0 OK.out (by trivial) (by omega) (by omega)
                  have E2 := hid e2
                  subst e1
                  have d2 : decide ((x.ack f : Int) < (cn : Int)) = false := by simpa using hac
                  go_wp2_with fail
                  rw [HX3.out]
                  refine (HV.out _).mono ?_
                  rintro e w2 ⟨rfl, hw2⟩
                  subst w2
                  go_wp2
                  go_ret
                  exact ⟨rfl, by rw [E2.out]; exact AckTo.same HRef.out B1.out⟩
  · have d0 : ((c0.toNat : Int) == 65) = false := by
      rw [beq_eq_false_iff_ne]; intro e; exact h0 (UInt8.toNat_inj.1 (by show c0.toNat = 65; omega))
    have d0' : ((c0.toNat : Int) != 65) = true := by rw [bne, d0]; rfl
    have e0 : ([c0] == [(65 : UInt8)]) = false := by simpa using h0
    obtain ⟨e1, e2⟩ := hS.h5 (by rw [hok, e0, Bool.and_false])
    subst e1 e2
    clear hok hS e0 h0 hf hc hfm hR
    go_enter Tryz.func59, Tryz.ntmps59
    go_wp2
    go_ret
    exact ⟨rfl, AckTo.same HRef.out (Blw.rfl _)⟩
end Go.Proofs.YtalaldfgjgpacaaGreatDoor

namespace Go.Proofs.YtalaldfgjgpacaaGreatDoor
set_option linter.unusedVariables false
set_option linter.unusedSimpArgs false
open Go.RowKit
attribute [local go_sem ↓] Go.wp_at_zero Go.wp_at_succ

/-- Both replicas' Ship. -/
structure ShipBoth (b cb me n : Nat) (p : Pc) (x : Ext) (lt : Value) (a : Int) (tk : Bs) (er : Int) : Prop where
  prog : ∀ w, w.heap[b]? = some (.cells (repArr me n p x) 69) → Calls Tryz.prog 56 #[.pointer (some ⟨b, 0, none⟩), .int .i64 a] w fun e w' => e = .returned (.tuple #[.string ⟨tk.toArray⟩, .int .i64 er]) ∧ Blw w w'
  ref : ∀ w, RefAt w cb me n p x lt → Calls Tryz.prog 57 #[.pointer (some ⟨cb, 0, none⟩), .int .i64 a] w fun e w' => e = .returned (.tuple #[.string ⟨tk.toArray⟩, .int .i64 er]) ∧ Blw w w'
  tkl : tk.length ≤ 1000

theorem ship_both (b cb me n : Nat) (p : Pc) (x : Ext) (lt : Value) (a : Int) (hn : n ≤ 3) (hme : me < n) (hp : p.fine) (hf : Fit p x) (hl : ∀ c, c ≤ x.kept → (tailJ x.late c 0).fine) : ∃ tk er, ShipBoth b cb me n p x lt a tk er := by
  have hh : x.had < 100 := by have := hf.1; have := size_le27 p; omega
  cases ho : isOth me n a
  · refine ⟨[], 1, ⟨fun w hb => ship_no b me n a p x w ho hb, fun w hr => ?_, by simp⟩⟩
    obtain ⟨a', b', ac, D, E, ln, ls, h1, _⟩ := hr.h
    refine (rship_no cb me n a' b' x.had lt ac x.log a w ho h1).mono ?_
    rintro e w' ⟨he, hw⟩
    exact ⟨he, blw_of_eq hw⟩
  · obtain ⟨r, rfl⟩ : ∃ r : Nat, a = (r : Int) := ⟨a.toNat, by simp only [isOth, Bool.and_eq_true, decide_eq_true_eq] at ho; omega⟩
    rw [isOth_nat] at ho
    simp only [Bool.and_eq_true, decide_eq_true_eq] at ho
    refine ⟨shipL me p x r (x.ack r), 0, ⟨fun w hb => ship_yes b me n r p x w _ hn hme ho.2 ho.1 hp.ok hh rfl (hf.2 r) (fun c hc => (hl c hc).ok) hb, fun w hr => rship_yes cb me n r p x lt _ w hr hp hn hme ho.2 ho.1 rfl (hf.2 r) hh, ?_⟩⟩
    have t1 := text_len' p hp.ok
    unfold shipL
    split
    · simp
    · split
      · rename_i h1 h2
        have t2 := text_len' _ (hl _ h2).ok
        simp [headL]; omega
      · simp [headL]; omega

set_option maxRecDepth 100000 in
set_option maxHeartbeats 4000000 in
theorem other12 (base B : Nat) (d : PD) (r t a bb c : Int) (s : ByteArray) (w : World) (h : PairAt base B w d) (hbs : base ≤ w.heap.size) (hB : B ≤ 100000000) :
    Calls Tryz.prog 23 #[.pointer (some ⟨d.pb, 0, none⟩), .agg (opArr 12 r t a bb c s)] w fun e w' => e = .returned (.bool true) ∧ PStep base (B + 1) d w w' := by
  obtain ⟨tk, er, K⟩ := ship_both d.b d.cb d.me d.n d.p d.x d.lt a h.n h.me h.fine h.sz (fun c hc => h.cb.tail c hc)
  have H := hid h
  have KK := hid K
  have BX : Hid (Blw w (w.alloc (.cells (opArr 12 r t a bb c s) 46))) := (Blw.rfl _).al _
  have HW := hid (hp_new w (.cells (opArr 12 r t a bb c s) 46))
  have S0 := hid (Sees.of (BX.out.bk' h.pb) HW.out)
  have tkl := K.tkl
  clear h K
  unfold opArr at *
  go_enter Tryz.func23, Tryz.ntmps23
  go_wp2_with fail
  go_cut [13, 14] (fun s1 s2 w' => s1 = .string ⟨tk.toArray⟩ ∧ s2 = .int .i64 er ∧ Blw (w.alloc (.cells #[.int .i64 12, .int .i64 r, .int .i64 t, .int .i64 a, .int .i64 bb, .int .i64 c, .string s] 46)) w')
  case first =>
    go_region_held3 (fun w' => w'.cell? ⟨d.pb, 0, none⟩ = some (.pointer (some ⟨d.b, 0, none⟩)) ∧ w'.cell? ⟨d.pb, 1, none⟩ = some (.pointer (some ⟨d.cb, 0, none⟩)) ∧ w'.cell? ⟨w.heap.size, 3, none⟩ = some (.int .i64 a) ∧ w'.cell? ⟨w.heap.size, 4, none⟩ = some (.int .i64 bb) ∧ w'.cell? ⟨w.heap.size, 5, none⟩ = some (.int .i64 c) ∧ w'.cell? ⟨w.heap.size, 6, none⟩ = some (.string s)) (first | exact S1.out | exact S0.out)
      (first | (go_at_call 56; refine (KK.out.prog _ ((BX.out.dr).bk' H.out.b)).mono ?_; rintro e w2 ⟨rfl, b2⟩; have B2 := hid (Blw.tr (Blw.dr (Blw.rfl _)) b2); have S1 := hid (Sees.of ((BX.out.tr B2.out).bk' H.out.pb) (B2.out.bk' HW.out)); clear b2))
    all_goals
      go_wp2_with fail
      go_meet
      case rel => exact ⟨rfl, rfl, B2.out⟩
  case rest =>
    obtain ⟨rfl, rfl, g1⟩ := hcut
    have G1 := hid g1
    have GW := hid (BX.out.tr g1)
    have S2 := hid (Sees.of (GW.out.bk' H.out.pb) (g1.bk' HW.out))
    have HR := hid (H.out.cb.on GW.out)
    clear g1
    go_wp2_with fail
    go_cut [15, 16] (fun s1 s2 w' => s1 = .string ⟨tk.toArray⟩ ∧ s2 = .int .i64 er ∧ Blw wc w')
    case first =>
      go_region_held3 (fun w' => w'.cell? ⟨d.pb, 0, none⟩ = some (.pointer (some ⟨d.b, 0, none⟩)) ∧ w'.cell? ⟨d.pb, 1, none⟩ = some (.pointer (some ⟨d.cb, 0, none⟩)) ∧ w'.cell? ⟨w.heap.size, 3, none⟩ = some (.int .i64 a) ∧ w'.cell? ⟨w.heap.size, 4, none⟩ = some (.int .i64 bb) ∧ w'.cell? ⟨w.heap.size, 5, none⟩ = some (.int .i64 c) ∧ w'.cell? ⟨w.heap.size, 6, none⟩ = some (.string s)) (first | exact S3.out | exact S2.out)
        (first | (go_at_call 57; refine (KK.out.ref _ (HR.out.on (Blw.dr (Blw.rfl _)))).mono ?_; rintro e w4 ⟨rfl, b4⟩; have B4 := hid (Blw.tr (Blw.dr (Blw.rfl _)) b4); have S3 := hid (Sees.of ((GW.out.tr B4.out).bk' H.out.pb) ((G1.out.tr B4.out).bk' HW.out)); clear b4))
      all_goals
        go_wp2_with fail
        go_meet
        case rel => exact ⟨rfl, rfl, B4.out⟩
    case rest =>
      obtain ⟨rfl, rfl, g5⟩ := hcut
      have FN := hid (PStep.same H.out (GW.out.tr g5) (B + 1) (Nat.le_succ _))
      have htt : (tk == tk) = true := by simp
      have hee : (er == er) = true := by simp
      clear g5
      go_wp2_with fail
      refine (num_any er _).mono ?_
      rintro e w5 ⟨rfl, hw5⟩
      subst w5
      go_wp2
      go_ret
      exact ⟨rfl, FN.out⟩

theorem ackSpec_ex (ok fm : Bool) (f cn : Nat) (x : Ext) : ∃ er x', AckSpec ok fm f cn x er x' ∧ (x' = x ∨ (x' = x.setAck f cn ∧ cn ≤ x.had)) := by
  cases ok
  · exact ⟨5, x, ⟨fun _ => ⟨rfl, rfl⟩, fun h => by simp at h, fun h => by simp at h, fun h => by simp at h, fun h => by simp at h⟩, .inl rfl⟩
  · cases fm
    · exact ⟨6, x, ⟨fun h => by simp at h, fun _ _ => ⟨rfl, rfl⟩, fun _ h => by simp at h, fun _ h => by simp at h, fun _ h => by simp at h⟩, .inl rfl⟩
    · by_cases h1 : x.had < cn
      · exact ⟨9, x, ⟨fun h => by simp at h, fun _ h => by simp at h, fun _ _ _ => ⟨rfl, rfl⟩, fun _ _ h => by omega, fun _ _ h => by omega⟩, .inl rfl⟩
      · by_cases h2 : x.ack f < cn
        · exact ⟨0, x.setAck f cn, ⟨fun h => by simp at h, fun _ h => by simp at h, fun _ _ h => by omega, fun _ _ _ h => by omega, fun _ _ _ _ => ⟨rfl, rfl⟩⟩, .inr ⟨rfl, by omega⟩⟩
        · exact ⟨0, x, ⟨fun h => by simp at h, fun _ h => by simp at h, fun _ _ h => by omega, fun _ _ _ _ => ⟨rfl, rfl⟩, fun _ _ _ h => by omega⟩, .inl rfl⟩

/-- Both replicas' Acked. -/
structure AckBoth (b cb me n : Nat) (p : Pc) (x : Ext) (lt : Value) (s : ByteArray) (er : Int) (x' : Ext) : Prop where
  prog : ∀ w, w.heap[b]? = some (.cells (repArr me n p x) 69) → Calls Tryz.prog 58 #[.pointer (some ⟨b, 0, none⟩), .string s] w fun e w' => e = .returned (.int .i64 er) ∧ RepTo b me n p x' w w'
  ref : ∀ w, RefAt w cb me n p x lt → Calls Tryz.prog 59 #[.pointer (some ⟨cb, 0, none⟩), .string s] w fun e w' => e = .returned (.int .i64 er) ∧ AckTo cb me n p x' lt w w'
  had : x'.had = x.had
  log : x'.log = x.log
  sz : Fit p x'

theorem fit_ack {p : Pc} {x x' : Ext} {f cn : Nat} (hf : Fit p x) (h : x' = x ∨ (x' = x.setAck f cn ∧ cn ≤ x.had)) : x'.had = x.had ∧ x'.log = x.log ∧ Fit p x' := by
  rcases h with rfl | ⟨rfl, hc⟩
  · exact ⟨rfl, rfl, hf⟩
  · refine ⟨rfl, rfl, hf.1, fun r => ?_⟩
    show (if r = f then cn else x.ack r) ≤ x.had
    split
    · exact hc
    · exact hf.2 r

theorem five_list (s : ByteArray) (h : s.size = 5) : ∃ c0 c1 c2 c3 c4, s = ⟨#[c0, c1, c2, c3, c4]⟩ := by
  obtain ⟨l, hl⟩ : ∃ l : Bs, s = ⟨l.toArray⟩ := ⟨s.data.toList, (bs_eta s).symm⟩
  subst hl
  rw [bs_size] at h
  match l, h with
  | [c0, c1, c2, c3, c4], _ => exact ⟨c0, c1, c2, c3, c4, rfl⟩

theorem ack_both (b cb me n : Nat) (p : Pc) (x : Ext) (lt : Value) (s : ByteArray) (hn : n ≤ 3) (hf : Fit p x) : ∃ er x', AckBoth b cb me n p x lt s er x' := by
  have hh : x.had < 100 := by have := hf.1; have := size_le27 p; omega
  by_cases h5 : s.size = 5
  · obtain ⟨c0, c1, c2, c3, c4, rfl⟩ := five_list s h5
    obtain ⟨ok, hok⟩ : ∃ ok, ok = (hdOk c1 c2 c3 c4 && ([c0] == [(65 : UInt8)])) := ⟨_, rfl⟩
    obtain ⟨f, hff⟩ : ∃ f, f = c1.toNat - 48 := ⟨_, rfl⟩
    obtain ⟨cn, hcn⟩ : ∃ cn, cn = (c3.toNat - 48) * 10 + (c4.toNat - 48) := ⟨_, rfl⟩
    obtain ⟨fm, hfm⟩ : ∃ fm, fm = forMe me n f (c2.toNat - 48) := ⟨_, rfl⟩
    obtain ⟨er, x', hS, hx⟩ := ackSpec_ex ok fm f cn x
    obtain ⟨k1, k2, k3⟩ := fit_ack hf hx
    have hR := fun w hr => racked_any cb me n p x lt c0 c1 c2 c3 c4 ok fm f cn er x' w hok hff hcn hfm hS hh hf.2 hn hr c0.toNat_lt
    cases hd : hdOk c1 c2 c3 c4
    · obtain ⟨e1, e2⟩ := hS.h5 (by rw [hok, hd]; rfl)
      subst e1 e2
      exact ⟨_, _, ⟨fun w hb => acked_bad b me n p x' _ w (fun wx => readHead_any c0 c1 c2 c3 c4 false _ wx hd.symm rfl) hb, hR, k1, k2, k3⟩⟩
    · have b1 := hd
      simp only [hdOk, Bool.and_eq_true] at b1
      have a1 := (isRepB_iff _).1 b1.1
      have a3 := (isDigB_iff _).1 b1.2.2.1
      have a4 := (isDigB_iff _).1 b1.2.2.2
      have hkf := hf.2 f
      refine ⟨er, x', ⟨fun w hb => ?_, hR, k1, k2, k3⟩⟩
      have : f = 0 ∨ f = 1 ∨ f = 2 := by omega
      rcases this with e | e | e
      · subst e; exact acked_at0 b me n p x c0 c1 c2 c3 c4 ok fm cn er x' _ w rfl hok hff.symm hcn hfm hS hh hb hd (by omega) (by omega)
      · subst e; exact acked_at1 b me n p x c0 c1 c2 c3 c4 ok fm cn er x' _ w rfl hok hff.symm hcn hfm hS hh hb hd (by omega) (by omega)
      · subst e; exact acked_at2 b me n p x c0 c1 c2 c3 c4 ok fm cn er x' _ w rfl hok hff.symm hcn hfm hS hh hb hd (by omega) (by omega)
  · refine ⟨5, x, ⟨fun w hb => acked_bad b me n p x s w (fun wx => readHead_len s wx h5) hb, fun w hr => ?_, rfl, rfl, hf⟩⟩
    refine (racked_len cb s w h5).mono ?_
    rintro e w' ⟨he, hw⟩
    exact ⟨he, AckTo.same hr (blw_of_eq hw)⟩

theorem pstep_ack {base B : Nat} {d : PD} {w w1 w2 w3 w4 : World} {er : Int} {s : ByteArray} {x' : Ext} (h : PairAt base B w d) (K : AckBoth d.b d.cb d.me d.n d.p d.x d.lt s er x') (h1 : Blw w w1) (h2 : RepTo d.b d.me d.n d.p x' w1 w2) (h23 : Blw w2 w3) (h3 : AckTo d.cb d.me d.n d.p x' d.lt w3 w4) : PStep base (B + 1) d w w4 := by
  have s1 := h1.sz
  have s2 := h2.2.size
  have npb : d.pb ≠ d.b := ty_ne h.pb h.b (by decide)
  have nb : d.b ≠ d.cb - 1 := ty_ne h.b h.cb.ackBlk (by decide)
  have npa : d.pb ≠ d.cb - 1 := ty_ne h.pb h.cb.ackBlk (by decide)
  refine ⟨⟨⟨d.pb, d.b, d.cb, d.me, d.n, d.p, x', d.lt⟩, ⟨?_, ?_, h3.at_, h.me, h.n, h.fine, h.hole, ?_, ?_, h.l1, h.l2, h.l3, h.l4, K.sz⟩, rfl, rfl, rfl, .inl rfl⟩, ?_⟩
  · have e1 := h1.bk' h.pb
    have e2 := (h2.2.block d.pb (lt_of_blk e1) npb).trans e1
    have e3 := h23.bk' e2
    exact (h3.bs.block d.pb (lt_of_blk e3) npa).trans e3
  · have e3 := h23.bk' h2.1
    exact (h3.bs.block d.b (lt_of_blk e3) nb).trans e3
  · have := K.had; have := h.had; show x'.had ≤ B + 1 + 100; omega
  · have e : x'.log.length = d.x.log.length := congrArg List.length K.log
    have := h.log; show x'.log.length ≤ (B + 1 + 10) * 1000; omega
  · refine (h1.b2 _).tr (Bs2.weak (Bs2.tr (h2.2.b2.weak (T := d.own) (fun i hi => .inl hi)) ?_) (fun i hi => .inl hi))
    exact ((h23.b2 (fun k => k = d.cb - 1)).tr (h3.bs.weak (fun i hi => .inl hi))).weak (fun i hi => .inl (.inr (.inr (.inr hi))))

theorem ref_on_rep2 {w w' : World} {base B : Nat} {d : PD} (h : PairAt base B w d) {w1 : World} (h1 : Blw w w1) {q : Pc} {y : Ext} (h2 : RepTo d.b d.me d.n q y w1 w') : RefAt w' d.cb d.me d.n d.p d.x d.lt := ref_on_rep h h1 h2

set_option maxRecDepth 100000 in
set_option maxHeartbeats 4000000 in
theorem other13 (base B : Nat) (d : PD) (r t a bb c : Int) (s : ByteArray) (w : World) (h : PairAt base B w d) (hbs : base ≤ w.heap.size) (hB : B ≤ 100000000) :
    Calls Tryz.prog 23 #[.pointer (some ⟨d.pb, 0, none⟩), .agg (opArr 13 r t a bb c s)] w fun e w' => e = .returned (.bool true) ∧ PStep base (B + 1) d w w' := by
  obtain ⟨er, x', K⟩ := ack_both d.b d.cb d.me d.n d.p d.x d.lt s h.n h.sz
  have H := hid h
  have KK := hid K
  have BX : Hid (Blw w (w.alloc (.cells (opArr 13 r t a bb c s) 46))) := (Blw.rfl _).al _
  have HW := hid (hp_new w (.cells (opArr 13 r t a bb c s) 46))
  have S0 := hid (Sees.of (BX.out.bk' h.pb) HW.out)
  clear h K
  unfold opArr at *
  go_enter Tryz.func23, Tryz.ntmps23
  go_wp2_with fail
  go_cut [17] (fun s2 w' => s2 = .int .i64 er ∧ w'.heap[w.heap.size]? = some (.cells #[.int .i64 13, .int .i64 r, .int .i64 t, .int .i64 a, .int .i64 bb, .int .i64 c, .string s] 46) ∧ w'.heap[d.pb]? = some (.cells #[.pointer (some ⟨d.b, 0, none⟩), .pointer (some ⟨d.cb, 0, none⟩)] 52) ∧ ∃ w1, Blw w w1 ∧ RepTo d.b d.me d.n d.p x' w1 w')
  case first =>
    go_region_held3 (fun w' => w'.cell? ⟨d.pb, 0, none⟩ = some (.pointer (some ⟨d.b, 0, none⟩)) ∧ w'.cell? ⟨d.pb, 1, none⟩ = some (.pointer (some ⟨d.cb, 0, none⟩)) ∧ w'.cell? ⟨w.heap.size, 3, none⟩ = some (.int .i64 a) ∧ w'.cell? ⟨w.heap.size, 4, none⟩ = some (.int .i64 bb) ∧ w'.cell? ⟨w.heap.size, 5, none⟩ = some (.int .i64 c) ∧ w'.cell? ⟨w.heap.size, 6, none⟩ = some (.string s)) (first | exact S1.out | exact S0.out)
      (first | (go_at_call 58; refine (KK.out.prog _ ((BX.out.dr).bk' H.out.b)).mono ?_; rintro e w2 ⟨rfl, r2⟩; have Z2 := hid (seen_rep H.out (show (w.alloc _).drew.heap[w.heap.size]? = _ from HW.out) BX.out.dr r2); have S1 := hid (Sees.of Z2.out.1 Z2.out.2); have R2 := hid r2; clear r2))
    all_goals
      go_wp2_with fail
      go_meet
      case rel => exact ⟨rfl, Z2.out.2, Z2.out.1, _, BX.out.dr, R2.out⟩
  case rest =>
    obtain ⟨rfl, g1, g2, w1, g3, g4⟩ := hcut
    have G4 := hid g4
    have G3 := hid g3
    have S2 := hid (Sees.of g2 g1)
    have HR := hid (ref_on_rep H.out g3 g4)
    have Z1 := hid (And.intro g2 g1)
    clear g1 g2 g3 g4
    go_wp2_with fail
    go_cut [18] (fun s2 w' => s2 = .int .i64 er ∧ ∃ w2, Blw wc w2 ∧ AckTo d.cb d.me d.n d.p x' d.lt w2 w')
    case first =>
      go_region_held3 (fun w' => w'.cell? ⟨d.pb, 0, none⟩ = some (.pointer (some ⟨d.b, 0, none⟩)) ∧ w'.cell? ⟨d.pb, 1, none⟩ = some (.pointer (some ⟨d.cb, 0, none⟩)) ∧ w'.cell? ⟨w.heap.size, 3, none⟩ = some (.int .i64 a) ∧ w'.cell? ⟨w.heap.size, 4, none⟩ = some (.int .i64 bb) ∧ w'.cell? ⟨w.heap.size, 5, none⟩ = some (.int .i64 c) ∧ w'.cell? ⟨w.heap.size, 6, none⟩ = some (.string s)) (first | exact S3.out | exact S2.out)
        (first | (go_at_call 59; refine (KK.out.ref _ (HR.out.on (Blw.dr (Blw.rfl _)))).mono ?_; rintro e w4 ⟨rfl, r4⟩; have e1 := (Blw.dr (Blw.rfl wc)).bk' Z1.out.1; have e2 := (Blw.dr (Blw.rfl wc)).bk' Z1.out.2; have S3 := hid (Sees.of ((r4.bs.block d.pb (lt_of_blk e1) (ty_ne H.out.pb H.out.cb.ackBlk (by decide))).trans e1) ((r4.bs.block _ (lt_of_blk e2) (by have := lt_of_blk H.out.cb.ackBlk; omega)).trans e2)); have R4 := hid r4; clear r4 e1 e2))
      all_goals
        go_wp2_with fail
        go_meet
        case rel => exact ⟨rfl, _, Blw.dr (Blw.rfl _), R4.out⟩
    case rest =>
      obtain ⟨rfl, w2, g5, g6⟩ := hcut
      have FN := hid (pstep_ack H.out KK.out G3.out G4.out g5 g6)
      have hee : (er == er) = true := by simp
      clear g5 g6
      go_wp2_with fail
      refine (num_any er _).mono ?_
      rintro e w5 ⟨rfl, hw5⟩
      subst w5
      go_wp2
      go_ret
      exact ⟨rfl, FN.out⟩

theorem does13 : Does 13 where
  client o h3 h7 h6 base B d w h hb hB hs ht := does11.client o h3 h7 (by omega) base B d w h hb hB hs ht
  other o h1 n1 n10 n37 h6 base B d w h hb hB hs ht := by
    by_cases hk : o.kind ≤ 11
    · exact does11.other o h1 n1 n10 n37 hk base B d w h hb hB hs ht
    · obtain ⟨kd, r, t, a, b, c, s⟩ := o
      simp only at h1 n1 n10 n37 h6 hs hk
      have : kd = 12 ∨ kd = 13 := by omega
      rcases this with rfl | rfl
      · exact other12 base B d r t a b c s w h hb (by omega)
      · exact other13 base B d r t a b c s w h hb (by omega)
  begin o hk h6 base B w hb hB hs ht := does11.begin o hk (by omega) base B w hb hB hs ht
end Go.Proofs.YtalaldfgjgpacaaGreatDoor
