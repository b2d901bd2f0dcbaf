import Derived.Test.YtalaldfgjgpacaaGreatDoorTE
import Derived.Test.YtalaldfgjgpacaaGreatDoorUC
import Derived.BigQuiet
namespace Go.Proofs.YtalaldfgjgpacaaGreatDoor
set_option linter.unusedVariables false
set_option linter.unusedSimpArgs false
open Go.RowKit
attribute [local go_sem ↓] Go.wp_at_zero Go.wp_at_succ

/-- The document's replica behind an answer. -/
structure AckTo (cb me n : Nat) (p : Pc) (x : Ext) (lt : Value) (w w' : World) : Prop where
  at_ : RefAt w' cb me n p x lt
  bs : Bs2 (fun k => k = cb - 1) w w'
theorem AckTo.same {cb me n : Nat} {p : Pc} {x : Ext} {lt : Value} {w w' : World} (h : RefAt w cb me n p x lt) (hb : Blw w w') : AckTo cb me n p x lt w w' := ⟨h.on hb, hb.b2 _⟩

theorem acksA_set (n : Nat) (f : Nat → Nat) (r k : Nat) (h : r < n) : (acksA n f).setIfInBounds r (.int .i64 k) = acksA n (fun i => if i = r then k else f i) := by
  refine Array.ext_getElem? fun j => ?_
  rw [Array.getElem?_setIfInBounds]
  by_cases hj : j < n
  · have e2 := acks_at n (fun i => if i = r then k else f i) j hj
    rw [e2]
    by_cases e : r = j
    · subst e; rw [if_pos rfl, if_pos (by simp [acksA]; omega)]; simp
    · rw [if_neg e, acks_at n f j hj]; simp [show ¬ j = r from fun h => e h.symm]
  · rw [if_neg (by omega), Array.getElem?_eq_none (by simp [acksA]; omega), Array.getElem?_eq_none (by simp [acksA]; omega)]
theorem AckTo.put {cb me n : Nat} {p : Pc} {x : Ext} {lt : Value} {w : World} (h : RefAt w cb me n p x lt) (r k : Nat) (hr : r < n) : AckTo cb me n p (x.setAck r k) lt w (w.setCell ⟨cb - 1, r, none⟩ (.int .i64 k)) := by
  obtain ⟨a, b, ac, D, E, ln, ls, h1, h2, h3, h4, h5, h6⟩ := h.h
  have hp := h5.pos
  refine ⟨⟨a, b, ac, D, E, ln, ls, ?_, h2.sc h5.ack (by decide) _, h3.sc h5.ack (by decide) _, h4.sc h5.ack (by decide) _ _, ⟨h5.ln, h5.lats.sc h5.ack (by decide) _ _, hp, h5.ac, ?_⟩, h6⟩, (Bs2.rfl _ w).sc _ _ _ (.inl rfl)⟩
  · exact (Below.heap_setCell w ⟨cb - 1, r, none⟩ _ cb (by simp; omega)).trans h1
  · rw [heap_setCell_self h5.ack, acksA_set _ _ _ _ hr]; rfl

set_option maxRecDepth 100000 in
set_option maxHeartbeats 4000000 in
theorem racked_len (cb : Nat) (s : ByteArray) (w : World) (h : s.size ≠ 5) :
    Calls Tryz.prog 59 #[.pointer (some ⟨cb, 0, none⟩), .string s] w fun e w' => e = .returned (.int .i64 5) ∧ w' = w := by
  have h1 : ((s.size : Int) == 5) = false := by rw [beq_eq_false_iff_ne]; omega
  have h2 : ((s.size : Int) != 5) = true := by rw [bne, h1]; rfl
  go_enter Tryz.func59, Tryz.ntmps59
  go_wp2
  go_ret
  exact ⟨rfl, rfl⟩

set_option maxRecDepth 100000 in
set_option maxHeartbeats 8000000 in
theorem racked_any (cb me n : Nat) (p : Pc) (x : Ext) (lt : Value) (c0 c1 c2 c3 c4 : UInt8) (ok fm : Bool) (f cn : Nat) (er : Int) (x' : Ext) (w : World) (hok : ok = (hdOk c1 c2 c3 c4 && ([c0] == [(65 : UInt8)]))) (hf : f = c1.toNat - 48) (hc : cn = (c3.toNat - 48) * 10 + (c4.toNat - 48)) (hfm : fm = forMe me n f (c2.toNat - 48)) (hS : AckSpec ok fm f cn x er x') (hh : x.had < 100) (hk : ∀ r, x.ack r ≤ x.had) (hn : n ≤ 3)
    (hR : RefAt w cb me n p x lt) (hc0 : c0.toNat < 256) :
    Calls Tryz.prog 59 #[.pointer (some ⟨cb, 0, none⟩), .string ⟨#[c0, c1, c2, c3, c4]⟩] w fun e w' => e = .returned (.int .i64 er) ∧ AckTo cb me n p x' lt w w' := by
  obtain ⟨y, hy⟩ : ∃ y : ByteArray, y = ⟨#[c0, c1, c2, c3, c4]⟩ := ⟨_, rfl⟩
  have hys : y.size = 5 := by rw [hy]; rfl
  have i0 : 0 < y.size := by omega
  have i1 : 1 < y.size := by omega
  have i2 : 2 < y.size := by omega
  have i3 : 3 < y.size := by omega
  have i4 : 4 < y.size := by omega
  have hb0 : y[0]'i0 = c0 := by subst hy; rfl
  have hb1 : y[1]'i1 = c1 := by subst hy; rfl
  have hb2 : y[2]'i2 = c2 := by subst hy; rfl
  have hb3 : y[3]'i3 = c3 := by subst hy; rfl
  have hb4 : y[4]'i4 = c4 := by subst hy; rfl
  have HX3 : Hid (y.extract 3 5 = ⟨[c3, c4].toArray⟩) := by rw [hy]; exact bs_extract [c0, c1, c2, c3, c4] 3 5
  rw [← hy]
  clear hy
  have HRef := hid hR
  have I1 := hid (fun wx => isReplica_any c1 wx)
  have I2 := hid (fun wx => isReplica_any c2 wx)
  have I3 := hid (fun wx => isDigit_any c3 wx)
  have I4 := hid (fun wx => isDigit_any c4 wx)
  have hl5 : ((y.size : Int) == 5) = true := by rw [beq_iff_eq]; omega
  have hl5' : ((y.size : Int) != 5) = false := by rw [bne, hl5]; rfl
  by_cases h0 : c0 = 65
  · have d0 : ((c0.toNat : Int) == 65) = true := by subst h0; rfl
    have d0' : ((c0.toNat : Int) != 65) = false := by rw [bne, d0]; rfl
    have e0 : ([c0] == [(65 : UInt8)]) = true := by subst h0; rfl
    rw [e0, Bool.and_true] at hok
    have HOK := hid hok
    clear h0 e0
    cases k1 : isRepB c1
    · rw [k1] at I1
      obtain ⟨e1, e2⟩ := hS.h5 (by rw [hok]; simp [hdOk, k1])
      subst e1 e2
      clear hok hS hf hc hfm HOK hR
      go_enter Tryz.func59, Tryz.ntmps59
      go_wp2_with fail
      refine (I1.out _).mono ?_
      rintro e w1 ⟨rfl, hw1⟩
      subst w1
      go_wp2
      go_ret
      exact ⟨rfl, AckTo.same HRef.out (Blw.rfl _)⟩
    · cases k2 : isRepB c2
      · rw [k1] at I1
        rw [k2] at I2
        obtain ⟨e1, e2⟩ := hS.h5 (by rw [hok]; simp [hdOk, k2])
        subst e1 e2
        clear hok hS hf hc hfm HOK hR
        go_enter Tryz.func59, Tryz.ntmps59
        go_wp2_with fail
        refine (I1.out _).mono ?_
        rintro e w1 ⟨rfl, hw1⟩
        subst w1
        go_wp2_with fail
        refine (I2.out _).mono ?_
        rintro e w1 ⟨rfl, hw1⟩
        subst w1
        go_wp2
        go_ret
        exact ⟨rfl, AckTo.same HRef.out (Blw.rfl _)⟩
      · cases k3 : isDigB c3
        · rw [k1] at I1
          rw [k2] at I2
          rw [k3] at I3
          obtain ⟨e1, e2⟩ := hS.h5 (by rw [hok]; simp [hdOk, k3])
          subst e1 e2
          clear hok hS hf hc hfm HOK hR
          go_enter Tryz.func59, Tryz.ntmps59
          go_wp2_with fail
          refine (I1.out _).mono ?_
          rintro e w1 ⟨rfl, hw1⟩
          subst w1
          go_wp2_with fail
          refine (I2.out _).mono ?_
          rintro e w1 ⟨rfl, hw1⟩
          subst w1
          go_wp2_with fail
          refine (I3.out _).mono ?_
          rintro e w1 ⟨rfl, hw1⟩
          subst w1
          go_wp2
          go_ret
          exact ⟨rfl, AckTo.same HRef.out (Blw.rfl _)⟩
        · cases k4 : isDigB c4
          · rw [k1] at I1
            rw [k2] at I2
            rw [k3] at I3
            rw [k4] at I4
            obtain ⟨e1, e2⟩ := hS.h5 (by rw [hok]; simp [hdOk, k4])
            subst e1 e2
            clear hok hS hf hc hfm HOK hR
            go_enter Tryz.func59, Tryz.ntmps59
            go_wp2_with fail
            refine (I1.out _).mono ?_
            rintro e w1 ⟨rfl, hw1⟩
            subst w1
            go_wp2_with fail
            refine (I2.out _).mono ?_
            rintro e w1 ⟨rfl, hw1⟩
            subst w1
            go_wp2_with fail
            refine (I3.out _).mono ?_
            rintro e w1 ⟨rfl, hw1⟩
            subst w1
            go_wp2_with fail
            refine (I4.out _).mono ?_
            rintro e w1 ⟨rfl, hw1⟩
            subst w1
            go_wp2
            go_ret
            exact ⟨rfl, AckTo.same HRef.out (Blw.rfl _)⟩
          · have OK : Hid (ok = true) := by show _ = _; rw [hok]; simp [hdOk, k1, k2, k3, k4]
            obtain ⟨a, b, ac, D, E, ln, ls, h1, h2, h3, h4, h5, h6⟩ := hR.h
            have HW := hid (fun wx hw => rwho_any cb me n a b x.had lt ac x.log c1 c2 wx k1 k2 hw)
            rw [← hf, ← hfm] at HW
            have HV := hid (fun wx => rvalue_any [c3, c4] wx (by simp) (fun j hj => by
              match j, hj with
              | 0, _ => exact k3
              | 1, _ => exact k4))
            have ecn : numTo [c3, c4] 2 = cn := by
              rw [hc]; simp [numTo]
            have hvl : ([c3, c4] : Bs).length = 2 := rfl
            rw [hvl, ecn] at HV
            obtain ⟨a1, a2⟩ := (isRepB_iff _).1 k1
            have a3 := (isDigB_iff _).1 k3
            have a4 := (isDigB_iff _).1 k4
            have hcn : cn < 100 := by omega
            have hf3 : f < 3 := by omega
            have hfi : ((c1.toNat : Int) - 48) = (f : Int) := by omega
            have H := hid h1
            rw [k1] at I1
            rw [k2] at I2
            rw [k3] at I3
            rw [k4] at I4
            have S := hid hS
            have HA := hid h5
            have HF := hid (And.intro hf hfm)
            have hkf := hk f
            have HKK := hid hk
            clear hok hS hc HOK hR h1 h2 h3 h4 h5 h6 ecn hvl hf hfm hk
            go_enter Tryz.func59, Tryz.ntmps59
            go_wp2_with fail
            refine (I1.out _).mono ?_
            rintro e w1 ⟨rfl, hw1⟩
            subst w1
            go_wp2_with fail
            refine (I2.out _).mono ?_
            rintro e w1 ⟨rfl, hw1⟩
            subst w1
            go_wp2_with fail
            refine (I3.out _).mono ?_
            rintro e w1 ⟨rfl, hw1⟩
            subst w1
            go_wp2_with fail
            refine (I4.out _).mono ?_
            rintro e w1 ⟨rfl, hw1⟩
            subst w1
            go_wp2_with fail
            go_quiet (first | (go_at_call 109; refine Calls.quiet_of_same (HW.out _ (show (World.drewN _ _).heap[cb]? = _ from H.out))))
            obtain ⟨w1, hw1⟩ : ∃ w1, w1 = w.drewN nq := ⟨_, rfl⟩
            rw [← hw1]
            have B1 : Hid (Blw w w1) := by show Blw w w1; rw [hw1]; exact Blw.drn (Blw.rfl _) _
            clear hw1
            have R1 := hid (HRef.out.on B1.out)
            cases fm
            · obtain ⟨e1, e2⟩ := S.out.h6 OK.out (by trivial)
              subst e1 e2
              go_wp2
              go_ret
              exact ⟨rfl, AckTo.same HRef.out B1.out⟩
            · have hfn : f < n := by
                have := HF.out.2.symm
                simp only [forMe, Bool.and_eq_true, decide_eq_true_eq] at this
                exact this.2.2
              have A1 := hid (HA.out.on B1.out)
              have H1 := hid (B1.out.bq H.out)
              have m4 := (ref_n H1.out).2.2.2.2.1
              have m6 := (ref_n H1.out).2.2.2.2.2.2.1
              rw [A1.out.ac] at m6
              have ck : w1.cell? ⟨cb - 1, f, none⟩ = some (.int .i64 (x.ack f)) := by rw [blk_cell A1.out.ack, acks_at _ _ _ hfn]
              have fz := blk_frozen A1.out.ack f
              by_cases hhd : x.had < cn
              · obtain ⟨e1, e2⟩ := S.out.h9 OK.out (by trivial) hhd
                have E2 := hid e2
                subst e1
                have d1 : decide ((x.had : Int) < (cn : Int)) = true := by simpa using hhd
                go_wp2_with fail
                rw [HX3.out]
                refine (HV.out _).mono ?_
                rintro e w2 ⟨rfl, hw2⟩
                subst w2
                go_wp2
                go_ret
                exact ⟨rfl, by rw [E2.out]; exact AckTo.same HRef.out B1.out⟩
              · have d1 : decide ((x.had : Int) < (cn : Int)) = false := by simpa using hhd
                by_cases hac : x.ack f < cn
                · obtain ⟨e1, e2⟩ := S.out.h1 OK.out (by trivial) (by omega) hac
                  have E2 := hid e2
                  subst e1
                  have d2 : decide ((x.ack f : Int) < (cn : Int)) = true := by simpa using hac
                  have FN := hid (AckTo.put R1.out f cn hfn)
                  go_wp2_with fail
                  rw [HX3.out]
                  refine (HV.out _).mono ?_
                  rintro e w2 ⟨rfl, hw2⟩
                  subst w2
                  go_wp2
                  go_ret
                  refine ⟨rfl, ?_⟩
                  rw [E2.out]
                  exact ⟨FN.out.at_, (B1.out.b2 _).tr (FN.out.bs.weak (fun i hi => .inl hi))⟩
                · obtain ⟨e1, e2⟩ := S.out.h0 OK.out (by trivial) (by omega) (by omega)
                  have E2 := hid e2
                  subst e1
                  have d2 : decide ((x.ack f : Int) < (cn : Int)) = false := by simpa using hac
                  go_wp2_with fail
                  rw [HX3.out]
                  refine (HV.out _).mono ?_
                  rintro e w2 ⟨rfl, hw2⟩
                  subst w2
                  go_wp2
                  go_ret
                  exact ⟨rfl, by rw [E2.out]; exact AckTo.same HRef.out B1.out⟩
  · have d0 : ((c0.toNat : Int) == 65) = false := by
      rw [beq_eq_false_iff_ne]; intro e; exact h0 (UInt8.toNat_inj.1 (by show c0.toNat = 65; omega))
    have d0' : ((c0.toNat : Int) != 65) = true := by rw [bne, d0]; rfl
    have e0 : ([c0] == [(65 : UInt8)]) = false := by simpa using h0
    obtain ⟨e1, e2⟩ := hS.h5 (by rw [hok, e0, Bool.and_false])
    subst e1 e2
    clear hok hS e0 h0 hf hc hfm hR
    go_enter Tryz.func59, Tryz.ntmps59
    go_wp2
    go_ret
    exact ⟨rfl, AckTo.same HRef.out (Blw.rfl _)⟩
end Go.Proofs.YtalaldfgjgpacaaGreatDoor
