import Derived.Test.YtalaldfgjgpacaaDoorXC
namespace Go.Proofs.YtalaldfgjgpacaaDoor
set_option linter.unusedVariables false
set_option linter.unusedSimpArgs false
open Go.RowKit

set_option maxRecDepth 100000 in
set_option maxHeartbeats 2000000 in
theorem alone_walk (ops : Nat → OpR) (len cap sb off : Nat) (w : World) (hl : len * 64 ≤ 140737488351232) (hs : ∀ i, i < len → (ops i).s.size ≤ 140737488355328) (h : Lies ops len sb off w) (hsb : sb < w.heap.size) (ht : Tab Tryd.prog w)
    (hwf : ∀ i, i < len → (-9223372036854775808 ≤ (ops i).a ∧ (ops i).a ≤ 9223372036854775807) ∧ (-9223372036854775808 ≤ (ops i).b ∧ (ops i).b ≤ 9223372036854775807) ∧ (-9223372036854775808 ≤ (ops i).c ∧ (ops i).c ≤ 9223372036854775807)) :
    Calls Tryd.prog 3 #[.slice (some ⟨sb, off, none⟩) len cap] w fun e w' => e = .returned (.bool true) ∧ Blw w w' := by
  have HSM := hid (fun wx hx => small_any ops len cap sb off wx (by unfold maxLen; omega) hs hx)
  have HNW := hid (fun wx => new_yes 0 1 wx (by decide) (by decide))
  have HL := hid h
  have HT := hid ht
  have HWF := hid hwf
  have hm1 := mk28
  have hm2 := mk29
  clear h ht hwf
  go_enter Tryd.func3, Tryd.ntmps3
  go_wp2_with fail
  refine (HSM.out _ HL.out).mono ?_
  rintro e w2 ⟨he, hw2⟩
  subst w2
  rcases he with rfl | rfl
  · go_wp2_with fail
    refine (HNW.out _).mono ?_
    rintro e w3 ⟨rfl, hw3⟩
    subst w3
    go_wp2_with fail
    go_loopw [5, 8, 9] (fun ee lf i wr => ∃ (k : Nat) (e : Int) (p : Pc) (cn : Nat) (th : Nat → Bool) (hv : Nat → Int), k ≤ len ∧ i = .int .i64 k ∧ ee = .int .i64 e ∧ lf = .int .i64 (9 - (cn : Int)) ∧ AW w.heap.size w p cn th hv wr) (fun _ _ i _ => len - (intOf i).toNat)
    case atStart => exact ⟨0, 0, Pc.empty, 0, _, _, by omega, rfl, rfl, rfl, ⟨at_start, ⟨Ext.zero, Nat.zero_le _, Nat.zero_le _, hp_old _ (by simp; omega) (hp_old _ (by simp) (hp_new _ _))⟩, hp_old _ (by simp) (by simpa using hp_new (w.alloc _) _), by simpa using hp_new ((w.alloc _).alloc _) _, (((Blw.rfl w).al _).al _).al _⟩⟩
    case round =>
      obtain ⟨k, e0, p, cn, th, hv, hk, rfl, rfl, rfl, hI⟩ := hrel
      have HI := hid hI
      clear hI
      by_cases hlt : k < len
      · obtain ⟨c0, c1, c2, c3, c4, c5, c6⟩ := (HL.out.on (HI.out.blw.bk sb hsb)) k hlt
        obtain ⟨wa, wb, wc⟩ := HWF.out k hlt
        obtain ⟨ck, hck, hc3⟩ := pk (ops k).a 3 (by decide)
        obtain ⟨ik, hik, hi4⟩ := pk (ops k).b 4 (by decide)
        obtain ⟨vk, hvk, hv99⟩ := pk (ops k).c 100 (by decide)
        have HPA := hid (fun wx => pick_any (ops k).a 3 wx wa.1 wa.2 (by decide) (by decide))
        have HPB := hid (fun wx => pick_any (ops k).b 4 wx wb.1 wb.2 (by decide) (by decide))
        have HPC := hid (fun wx => pick_any (ops k).c 100 wx wc.1 wc.2 (by decide) (by decide))
        rw [hck] at HPA
        rw [hik] at HPB
        rw [hvk] at HPC
        clear hck hik hvk wa wb wc
        go_wp2_with fail
        refine (HPA.out _).mono ?_
        rintro e w4 ⟨rfl, hw4⟩
        subst w4
        go_wp2_with fail
        refine (HPB.out _).mono ?_
        rintro e w4 ⟨rfl, hw4⟩
        subst w4
        go_wp2_with fail
        refine (HPC.out _).mono ?_
        rintro e w4 ⟨rfl, hw4⟩
        subst w4
        have HJ := hid (HI.out.go ((Blw.rfl wr).al (.cells #[.int .i64 (ops k).kind, .int .i64 (ops k).r, .int .i64 (ops k).t, .int .i64 (ops k).a, .int .i64 (ops k).b, .int .i64 (ops k).c, .string (ops k).s] 31)))
        have hbw : w.heap.size < wr.heap.size := HI.out.rep.lt
        have hbw2 : w.heap.size + 2 < wr.heap.size := lt_of_blk HI.out.hv
        have ZO := hid (hp_new wr (.cells #[.int .i64 (ops k).kind, .int .i64 (ops k).r, .int .i64 (ops k).t, .int .i64 (ops k).a, .int .i64 (ops k).b, .int .i64 (ops k).c, .string (ops k).s] 31))
        by_cases gk : (ops k).kind = 3
        · as_aux_lemma =>
            have HC := hid (fun x y hx hy => add_solo' w.heap.size ck ik vk x y _ HJ.out.tb HJ.out.rep (by omega) (by omega) (by omega) (by omega) hx hy (HT.out.blw HJ.out.blw))
            have q3 : ((ops k).kind == 3) = true := by simp [gk]
            have q4 : ((ops k).kind == 4) = false := by simp [gk]
            have q5 : ((ops k).kind == 5) = false := by simp [gk]
            have q6 : ((ops k).kind == 6) = false := by simp [gk]
            have q7 : ((ops k).kind == 7) = false := by simp [gk]
            have n3 : ((ops k).kind != 3) = false := by simp [gk]
            have n6 : ((ops k).kind != 6) = true := by simp [gk]
            clear gk
            go_wp2_with fail
            refine (HC.out _ _ ?hx ?hy).mono ?_
            case hx => omega
            case hy => omega
            rintro e w5 ⟨p', tx, ee, rfl, ho, hr⟩
            have zo := hr.2.keep ZO.out (by omega)
            have Z : Hid (TW w.heap.size wr.heap.size (ops k).kind w p' th hv w5) := ⟨hr.1, hr.2.keep HJ.out.th (by omega), hr.2.keep HJ.out.hv (by omega), hr.2.blwA HJ.out.blw (by omega), Nat.le_refl _, hbw2, lt_of_blk zo, blk_cell zo 0⟩
            have o0 := Z.out.o0
            clear hr zo c0 c1 c2 c3 c4 c5 c6 HC
            rcases ho with ⟨h9, hp, htx, hee⟩ | ⟨h9, htx, hee, hAT⟩
            · subst hp
              subst htx
              subst hee
              subst h9
              go_wp2
              go_roundw
              case rel => exact ⟨k + 1, 4, p', 9, th, hv, by omega, by go_num, rfl, rfl, ⟨HI.out.tb, Z.out.rep, Z.out.th, Z.out.hv, Z.out.blw⟩⟩
              case measure => simp [intOf]; omega
            · subst htx
              subst hee
              have HD := hid (fun x wx hx => dec_solo cn x wx h9 hx)
              have hl0 : ((9 - (cn : Int)) == 0) = false := by simp; omega
              have AA := hid hAT
              clear hAT
              go_wp2_with fail
              refine (HD.out _ _ ?hx).mono ?_
              case hx => omega
              rintro e w6 ⟨rfl, b6⟩
              have W6 := hid ((Z.out.go b6).zero (fun _ => false))
              clear o0 b6 Z HD
              go_wp2_with fail
              go_loopw [19] (fun i wi => ∃ (m : Nat), m ≤ 12 ∧ i = .int .i64 m ∧ TW w.heap.size wr.heap.size (ops k).kind w p' (kT (fun _ => false) m th) (kH (fun _ => false) m hv) wi) (fun i _ => 12 - (intOf i).toNat)
              case atStart => exact ⟨0, by omega, rfl, W6.out⟩
              case round =>
                obtain ⟨m, hm, rfl, hW⟩ := hrel
                have o1 := hW.o0
                have W := hid hW
                clear hW W6
                by_cases hlm : m < 12
                · have FIN := hid (W.out.pass rfl)
                  by_cases hat : m = ck * 4 + ik
                  · have x4 : ((m : Int) == (ck : Int) * 4 + (ik : Int)) = true := by simp; omega
                    clear hat
                    go_wp2
                    go_roundw
                    case rel => exact ⟨m + 1, by omega, by go_num, FIN.out⟩
                    case measure => simp [intOf]; omega
                  · have x4 : ((m : Int) == (ck : Int) * 4 + (ik : Int)) = false := by simp; omega
                    clear hat
                    go_wp2
                    go_roundw
                    case rel => exact ⟨m + 1, by omega, by go_num, FIN.out⟩
                    case measure => simp [intOf]; omega
                · have hm12 : m = 12 := by omega
                  subst hm12
                  have h12 : ck * 4 + ik < 12 := by omega
                  have e1 : kT (fun _ => false) 12 th = th := by funext j; simp [kT]
                  have e2 : kH (fun _ => false) 12 hv = hv := by funext j; simp [kH]
                  rw [e1, e2] at W
                  have t1 := W.out.cT h12
                  have t2 := W.out.cH h12
                  have f1 : wr.frozen? ⟨w.heap.size + 1, ck * 4 + ik, none⟩ = false := blk_frozen W.out.th _
                  have f2 : wr.frozen? ⟨w.heap.size + 1 + 1, ck * 4 + ik, none⟩ = false := blk_frozen W.out.hv _
                  have FIN : Hid (AW w.heap.size w p' (cn + 1) (thN 3 ck ik th) (hvN 3 ck ik vk hv) ((wr.setCell ⟨w.heap.size + 1, ck * 4 + ik, none⟩ (.bool true)).setCell ⟨w.heap.size + 1 + 1, ck * 4 + ik, none⟩ (.int .i64 (hv (ck * 4 + ik) - vk)))) :=
                    ((W.out.setT (ck * 4 + ik) true).setH (ck * 4 + ik) (hv (ck * 4 + ik) - vk)).aw AA.out (fun j _ => rfl) (fun j _ => by
                      show (if j = ck * 4 + ik then hv (ck * 4 + ik) - (vk : Int) else hv j) = if j = ck * 4 + ik then hv j - vk else hv j
                      by_cases e : j = ck * 4 + ik
                      · rw [if_pos e, if_pos e, e]
                      · rw [if_neg e, if_neg e])
                  have hbd := HI.out.tb.bd (ck * 4 + ik)
                  have FI2 := hid (And.intro t1 (And.intro t2 hbd))
                  clear t1 t2 hbd
                  obtain ⟨t1, t2, hbd⟩ := FI2.out
                  clear FI2
                  generalize hv (ck * 4 + ik) = z2 at t2 FIN hbd
                  generalize th (ck * 4 + ik) = z1 at t1
                  go_wp2
                  go_roundw
                  case rel => exact ⟨k + 1, 0, p', cn + 1, _, _, by omega, by go_num, rfl, by go_num, FIN.out⟩
                  case measure => simp [intOf]; omega
        · by_cases gk : (ops k).kind = 4
          · as_aux_lemma =>
              have HC := hid (fun x hx => set_solo' w.heap.size ck ik vk x _ HJ.out.tb HJ.out.rep (by omega) (by omega) (by omega) (by omega) hx (HT.out.blw HJ.out.blw))
              have q3 : ((ops k).kind == 3) = false := by simp [gk]
              have q4 : ((ops k).kind == 4) = true := by simp [gk]
              have q5 : ((ops k).kind == 5) = false := by simp [gk]
              have q6 : ((ops k).kind == 6) = false := by simp [gk]
              have q7 : ((ops k).kind == 7) = false := by simp [gk]
              have n3 : ((ops k).kind != 3) = true := by simp [gk]
              have n6 : ((ops k).kind != 6) = true := by simp [gk]
              clear gk
              go_wp2_with fail
              refine (HC.out _ ?hx).mono ?_
              case hx => omega
              rintro e w5 ⟨p', tx, ee, rfl, ho, hr⟩
              have zo := hr.2.keep ZO.out (by omega)
              have Z : Hid (TW w.heap.size wr.heap.size (ops k).kind w p' th hv w5) := ⟨hr.1, hr.2.keep HJ.out.th (by omega), hr.2.keep HJ.out.hv (by omega), hr.2.blwA HJ.out.blw (by omega), Nat.le_refl _, hbw2, lt_of_blk zo, blk_cell zo 0⟩
              have o0 := Z.out.o0
              clear hr zo c0 c1 c2 c3 c4 c5 c6 HC
              rcases ho with ⟨h9, hp, htx, hee⟩ | ⟨h9, htx, hee, hAT⟩
              · subst hp
                subst htx
                subst hee
                subst h9
                go_wp2
                go_roundw
                case rel => exact ⟨k + 1, 4, p', 9, th, hv, by omega, by go_num, rfl, rfl, ⟨HI.out.tb, Z.out.rep, Z.out.th, Z.out.hv, Z.out.blw⟩⟩
                case measure => simp [intOf]; omega
              · subst htx
                subst hee
                have HD := hid (fun x wx hx => dec_solo cn x wx h9 hx)
                have hl0 : ((9 - (cn : Int)) == 0) = false := by simp; omega
                have AA := hid hAT
                clear hAT
                go_wp2_with fail
                refine (HD.out _ _ ?hx).mono ?_
                case hx => omega
                rintro e w6 ⟨rfl, b6⟩
                have W6 := hid ((Z.out.go b6).zero (fun j => j == ck * 4 + ik))
                clear o0 b6 Z HD
                go_wp2_with fail
                go_loopw [19] (fun i wi => ∃ (m : Nat), m ≤ 12 ∧ i = .int .i64 m ∧ TW w.heap.size wr.heap.size (ops k).kind w p' (kT (fun j => j == ck * 4 + ik) m th) (kH (fun j => j == ck * 4 + ik) m hv) wi) (fun i _ => 12 - (intOf i).toNat)
                case atStart => exact ⟨0, by omega, rfl, W6.out⟩
                case round =>
                  obtain ⟨m, hm, rfl, hW⟩ := hrel
                  have o1 := hW.o0
                  have W := hid hW
                  clear hW W6
                  by_cases hlm : m < 12
                  · have t1 := W.out.cT hlm
                    have t2 := W.out.cH hlm
                    have f1 : wr.frozen? ⟨w.heap.size + 1, m, none⟩ = false := blk_frozen W.out.th _
                    have f2 : wr.frozen? ⟨w.heap.size + 1 + 1, m, none⟩ = false := blk_frozen W.out.hv _
                    by_cases hcd : m = ck * 4 + ik
                    · have x3 : ((m : Int) == (ck : Int) * 4 + (ik : Int)) = true := by simp; omega
                      have hkl : (fun j => j == ck * 4 + ik) m = true := by simp; omega
                      have FIN := hid (W.out.kill hkl)
                      generalize kT (fun j => j == ck * 4 + ik) m th m = x1 at t1
                      generalize kH (fun j => j == ck * 4 + ik) m hv m = x2 at t2
                      clear hcd hkl
                      go_wp2
                      go_roundw
                      case rel => exact ⟨m + 1, by omega, by go_num, FIN.out⟩
                      case measure => simp [intOf]; omega
                    · have x3 : ((m : Int) == (ck : Int) * 4 + (ik : Int)) = false := by simp; omega
                      have hkl : (fun j => j == ck * 4 + ik) m = false := by simp; omega
                      have FIN := hid (W.out.pass hkl)
                      clear hcd hkl t1 t2
                      go_wp2
                      go_roundw
                      case rel => exact ⟨m + 1, by omega, by go_num, FIN.out⟩
                      case measure => simp [intOf]; omega
                  · have hm12 : m = 12 := by omega
                    subst hm12
                    have h12 : ck * 4 + ik < 12 := by omega
                    have t1 := W.out.cT h12
                    have t2 := W.out.cH h12
                    have f1 : wr.frozen? ⟨w.heap.size + 1, ck * 4 + ik, none⟩ = false := blk_frozen W.out.th _
                    have f2 : wr.frozen? ⟨w.heap.size + 1 + 1, ck * 4 + ik, none⟩ = false := blk_frozen W.out.hv _
                    have FIN : Hid (AW w.heap.size w p' (cn + 1) (thN 4 ck ik th) (hvN 4 ck ik vk hv) ((wr.setCell ⟨w.heap.size + 1, ck * 4 + ik, none⟩ (.bool true)).setCell ⟨w.heap.size + 1 + 1, ck * 4 + ik, none⟩ (.int .i64 vk))) :=
                      ((W.out.setT (ck * 4 + ik) true).setH (ck * 4 + ik) vk).aw AA.out (fun j _ => by
                        show (if j = ck * 4 + ik then true else kT _ 12 th j) = if j = ck * 4 + ik then true else th j
                        by_cases e : j = ck * 4 + ik
                        · rw [if_pos e, if_pos e]
                        · rw [if_neg e, if_neg e]; simp [kT, e]) (fun j _ => by
                        show (if j = ck * 4 + ik then (vk : Int) else kH _ 12 hv j) = if j = ck * 4 + ik then (vk : Int) else hv j
                        by_cases e : j = ck * 4 + ik
                        · rw [if_pos e, if_pos e]
                        · rw [if_neg e, if_neg e]; simp [kH, e])
                    generalize kH (fun j => j == ck * 4 + ik) 12 hv (ck * 4 + ik) = z2 at t2
                    generalize kT (fun j => j == ck * 4 + ik) 12 th (ck * 4 + ik) = z1 at t1
                    go_wp2
                    go_roundw
                    case rel => exact ⟨k + 1, 0, p', cn + 1, _, _, by omega, by go_num, rfl, by go_num, FIN.out⟩
                    case measure => simp [intOf]; omega
          · by_cases gk : (ops k).kind = 5
            · as_aux_lemma =>
                have HC := hid (fun x hx => remove_solo' w.heap.size ck ik vk x _ HJ.out.tb HJ.out.rep (by omega) (by omega) hx (HT.out.blw HJ.out.blw))
                have q3 : ((ops k).kind == 3) = false := by simp [gk]
                have q4 : ((ops k).kind == 4) = false := by simp [gk]
                have q5 : ((ops k).kind == 5) = true := by simp [gk]
                have q6 : ((ops k).kind == 6) = false := by simp [gk]
                have q7 : ((ops k).kind == 7) = false := by simp [gk]
                have n3 : ((ops k).kind != 3) = true := by simp [gk]
                have n6 : ((ops k).kind != 6) = true := by simp [gk]
                clear gk
                go_wp2_with fail
                refine (HC.out _ ?hx).mono ?_
                case hx => omega
                rintro e w5 ⟨p', tx, ee, rfl, ho, hr⟩
                have zo := hr.2.keep ZO.out (by omega)
                have Z : Hid (TW w.heap.size wr.heap.size (ops k).kind w p' th hv w5) := ⟨hr.1, hr.2.keep HJ.out.th (by omega), hr.2.keep HJ.out.hv (by omega), hr.2.blwA HJ.out.blw (by omega), Nat.le_refl _, hbw2, lt_of_blk zo, blk_cell zo 0⟩
                have o0 := Z.out.o0
                clear hr zo c0 c1 c2 c3 c4 c5 c6 HC
                rcases ho with ⟨h9, hp, htx, hee⟩ | ⟨h9, htx, hee, hAT⟩
                · subst hp
                  subst htx
                  subst hee
                  subst h9
                  go_wp2
                  go_roundw
                  case rel => exact ⟨k + 1, 4, p', 9, th, hv, by omega, by go_num, rfl, rfl, ⟨HI.out.tb, Z.out.rep, Z.out.th, Z.out.hv, Z.out.blw⟩⟩
                  case measure => simp [intOf]; omega
                · subst htx
                  subst hee
                  have HD := hid (fun x wx hx => dec_solo cn x wx h9 hx)
                  have hl0 : ((9 - (cn : Int)) == 0) = false := by simp; omega
                  have AA := hid hAT
                  clear hAT
                  go_wp2_with fail
                  refine (HD.out _ _ ?hx).mono ?_
                  case hx => omega
                  rintro e w6 ⟨rfl, b6⟩
                  have W6 := hid ((Z.out.go b6).zero (fun j => j == ck * 4 + ik))
                  clear o0 b6 Z HD
                  go_wp2_with fail
                  go_loopw [19] (fun i wi => ∃ (m : Nat), m ≤ 12 ∧ i = .int .i64 m ∧ TW w.heap.size wr.heap.size (ops k).kind w p' (kT (fun j => j == ck * 4 + ik) m th) (kH (fun j => j == ck * 4 + ik) m hv) wi) (fun i _ => 12 - (intOf i).toNat)
                  case atStart => exact ⟨0, by omega, rfl, W6.out⟩
                  case round =>
                    obtain ⟨m, hm, rfl, hW⟩ := hrel
                    have o1 := hW.o0
                    have W := hid hW
                    clear hW W6
                    by_cases hlm : m < 12
                    · have t1 := W.out.cT hlm
                      have t2 := W.out.cH hlm
                      have f1 : wr.frozen? ⟨w.heap.size + 1, m, none⟩ = false := blk_frozen W.out.th _
                      have f2 : wr.frozen? ⟨w.heap.size + 1 + 1, m, none⟩ = false := blk_frozen W.out.hv _
                      by_cases hcd : m = ck * 4 + ik
                      · have x3 : ((m : Int) == (ck : Int) * 4 + (ik : Int)) = true := by simp; omega
                        have hkl : (fun j => j == ck * 4 + ik) m = true := by simp; omega
                        have FIN := hid (W.out.kill hkl)
                        generalize kT (fun j => j == ck * 4 + ik) m th m = x1 at t1
                        generalize kH (fun j => j == ck * 4 + ik) m hv m = x2 at t2
                        clear hcd hkl
                        go_wp2
                        go_roundw
                        case rel => exact ⟨m + 1, by omega, by go_num, FIN.out⟩
                        case measure => simp [intOf]; omega
                      · have x3 : ((m : Int) == (ck : Int) * 4 + (ik : Int)) = false := by simp; omega
                        have hkl : (fun j => j == ck * 4 + ik) m = false := by simp; omega
                        have FIN := hid (W.out.pass hkl)
                        clear hcd hkl t1 t2
                        go_wp2
                        go_roundw
                        case rel => exact ⟨m + 1, by omega, by go_num, FIN.out⟩
                        case measure => simp [intOf]; omega
                    · have hm12 : m = 12 := by omega
                      subst hm12
                      have FIN : Hid (AW w.heap.size w p' (cn + 1) (thN 5 ck ik th) (hvN 5 ck ik vk hv) wr) :=
                        W.out.aw AA.out (fun j hj => by
                          show kT _ 12 th j = if j = ck * 4 + ik then false else th j
                          by_cases e : j = ck * 4 + ik
                          · rw [if_pos e]; simp [kT, hj, e]; omega
                          · rw [if_neg e]; simp [kT, e]) (fun j hj => by
                          show kH _ 12 hv j = if j = ck * 4 + ik then 0 else hv j
                          by_cases e : j = ck * 4 + ik
                          · rw [if_pos e]; simp [kH, hj, e]; omega
                          · rw [if_neg e]; simp [kH, e])
                      go_wp2
                      go_roundw
                      case rel => exact ⟨k + 1, 0, p', cn + 1, _, _, by omega, by go_num, rfl, by go_num, FIN.out⟩
                      case measure => simp [intOf]; omega
            · by_cases gk : (ops k).kind = 6
              · as_aux_lemma =>
                  have HC := hid (clear_solo w.heap.size ck ik vk _ HJ.out.tb HJ.out.rep (by omega) (HT.out.blw HJ.out.blw))
                  have q3 : ((ops k).kind == 3) = false := by simp [gk]
                  have q4 : ((ops k).kind == 4) = false := by simp [gk]
                  have q5 : ((ops k).kind == 5) = false := by simp [gk]
                  have q6 : ((ops k).kind == 6) = true := by simp [gk]
                  have q7 : ((ops k).kind == 7) = false := by simp [gk]
                  have n3 : ((ops k).kind != 3) = true := by simp [gk]
                  have n6 : ((ops k).kind != 6) = false := by simp [gk]
                  clear gk
                  go_wp2_with fail
                  refine HC.out.mono ?_
                  rintro e w5 ⟨p', tx, ee, rfl, ho, hr⟩
                  have zo := hr.2.keep ZO.out (by omega)
                  have Z : Hid (TW w.heap.size wr.heap.size (ops k).kind w p' th hv w5) := ⟨hr.1, hr.2.keep HJ.out.th (by omega), hr.2.keep HJ.out.hv (by omega), hr.2.blwA HJ.out.blw (by omega), Nat.le_refl _, hbw2, lt_of_blk zo, blk_cell zo 0⟩
                  have o0 := Z.out.o0
                  clear hr zo c0 c1 c2 c3 c4 c5 c6 HC
                  rcases ho with ⟨h9, hp, htx, hee⟩ | ⟨h9, htx, hee, hAT⟩
                  · subst hp
                    subst htx
                    subst hee
                    subst h9
                    go_wp2
                    go_roundw
                    case rel => exact ⟨k + 1, 4, p', 9, th, hv, by omega, by go_num, rfl, rfl, ⟨HI.out.tb, Z.out.rep, Z.out.th, Z.out.hv, Z.out.blw⟩⟩
                    case measure => simp [intOf]; omega
                  · subst htx
                    subst hee
                    have HD := hid (fun x wx hx => dec_solo cn x wx h9 hx)
                    have hl0 : ((9 - (cn : Int)) == 0) = false := by simp; omega
                    have AA := hid hAT
                    clear hAT
                    go_wp2_with fail
                    refine (HD.out _ _ ?hx).mono ?_
                    case hx => omega
                    rintro e w6 ⟨rfl, b6⟩
                    have W6 := hid ((Z.out.go b6).zero (fun j => j / 4 == ck))
                    clear o0 b6 Z HD
                    go_wp2_with fail
                    go_loopw [19] (fun i wi => ∃ (m : Nat), m ≤ 12 ∧ i = .int .i64 m ∧ TW w.heap.size wr.heap.size (ops k).kind w p' (kT (fun j => j / 4 == ck) m th) (kH (fun j => j / 4 == ck) m hv) wi) (fun i _ => 12 - (intOf i).toNat)
                    case atStart => exact ⟨0, by omega, rfl, W6.out⟩
                    case round =>
                      obtain ⟨m, hm, rfl, hW⟩ := hrel
                      have o1 := hW.o0
                      have W := hid hW
                      clear hW W6
                      by_cases hlm : m < 12
                      · by_cases hat : m = ck * 4 + ik
                        · have x4 : ((m : Int) == (ck : Int) * 4 + (ik : Int)) = true := by simp; omega
                          clear hat
                          have t1 := W.out.cT hlm
                          have t2 := W.out.cH hlm
                          have f1 : wr.frozen? ⟨w.heap.size + 1, m, none⟩ = false := blk_frozen W.out.th _
                          have f2 : wr.frozen? ⟨w.heap.size + 1 + 1, m, none⟩ = false := blk_frozen W.out.hv _
                          by_cases hcd : m / 4 = ck
                          · have x3 : ((m : Int) / 4 == (ck : Int)) = true := by simp; omega
                            have hkl : (fun j => j / 4 == ck) m = true := by simp; omega
                            have FIN := hid (W.out.kill hkl)
                            generalize kT (fun j => j / 4 == ck) m th m = x1 at t1
                            generalize kH (fun j => j / 4 == ck) m hv m = x2 at t2
                            clear hcd hkl
                            go_wp2
                            go_roundw
                            case rel => exact ⟨m + 1, by omega, by go_num, FIN.out⟩
                            case measure => simp [intOf]; omega
                          · have x3 : ((m : Int) / 4 == (ck : Int)) = false := by simp; omega
                            have hkl : (fun j => j / 4 == ck) m = false := by simp; omega
                            have FIN := hid (W.out.pass hkl)
                            clear hcd hkl t1 t2
                            go_wp2
                            go_roundw
                            case rel => exact ⟨m + 1, by omega, by go_num, FIN.out⟩
                            case measure => simp [intOf]; omega
                        · have x4 : ((m : Int) == (ck : Int) * 4 + (ik : Int)) = false := by simp; omega
                          clear hat
                          have t1 := W.out.cT hlm
                          have t2 := W.out.cH hlm
                          have f1 : wr.frozen? ⟨w.heap.size + 1, m, none⟩ = false := blk_frozen W.out.th _
                          have f2 : wr.frozen? ⟨w.heap.size + 1 + 1, m, none⟩ = false := blk_frozen W.out.hv _
                          by_cases hcd : m / 4 = ck
                          · have x3 : ((m : Int) / 4 == (ck : Int)) = true := by simp; omega
                            have hkl : (fun j => j / 4 == ck) m = true := by simp; omega
                            have FIN := hid (W.out.kill hkl)
                            generalize kT (fun j => j / 4 == ck) m th m = x1 at t1
                            generalize kH (fun j => j / 4 == ck) m hv m = x2 at t2
                            clear hcd hkl
                            go_wp2
                            go_roundw
                            case rel => exact ⟨m + 1, by omega, by go_num, FIN.out⟩
                            case measure => simp [intOf]; omega
                          · have x3 : ((m : Int) / 4 == (ck : Int)) = false := by simp; omega
                            have hkl : (fun j => j / 4 == ck) m = false := by simp; omega
                            have FIN := hid (W.out.pass hkl)
                            clear hcd hkl t1 t2
                            go_wp2
                            go_roundw
                            case rel => exact ⟨m + 1, by omega, by go_num, FIN.out⟩
                            case measure => simp [intOf]; omega
                      · have hm12 : m = 12 := by omega
                        subst hm12
                        have FIN : Hid (AW w.heap.size w p' (cn + 1) (thN 6 ck ik th) (hvN 6 ck ik vk hv) wr) :=
                          W.out.aw AA.out (fun j hj => by
                            show kT _ 12 th j = if j / 4 = ck then false else th j
                            by_cases e : j / 4 = ck
                            · rw [if_pos e]; simp [kT, e, hj]
                            · rw [if_neg e]; simp [kT, e]) (fun j hj => by
                            show kH _ 12 hv j = if j / 4 = ck then 0 else hv j
                            by_cases e : j / 4 = ck
                            · rw [if_pos e]; simp [kH, e, hj]
                            · rw [if_neg e]; simp [kH, e])
                        go_wp2
                        go_roundw
                        case rel => exact ⟨k + 1, 0, p', cn + 1, _, _, by omega, by go_num, rfl, by go_num, FIN.out⟩
                        case measure => simp [intOf]; omega
              · by_cases gk : (ops k).kind = 7
                · as_aux_lemma =>
                    have HC := hid (read_solo w.heap.size ck _ HJ.out.tb HJ.out.rep (by omega) (HT.out.blw HJ.out.blw))
                    have HLS := hid (fun wx h1 h2 => listed_any th hv (w.heap.size + 1) (w.heap.size + 1 + 1) ck wx (by omega) HI.out.tb.bd h1 h2)
                    have q3 : ((ops k).kind == 3) = false := by simp [gk]
                    have q4 : ((ops k).kind == 4) = false := by simp [gk]
                    have q5 : ((ops k).kind == 5) = false := by simp [gk]
                    have q6 : ((ops k).kind == 6) = false := by simp [gk]
                    have q7 : ((ops k).kind == 7) = true := by simp [gk]
                    have n3 : ((ops k).kind != 3) = true := by simp [gk]
                    have n6 : ((ops k).kind != 6) = true := by simp [gk]
                    clear gk
                    go_wp2_with fail
                    refine HC.out.mono ?_
                    rintro e w5 ⟨⟨tk, rfl⟩, b5⟩
                    have Z := hid (HJ.out.go b5)
                    clear b5 c0 c1 c2 c3 c4 c5 c6 HC
                    go_wp2_with fail
                    refine (HLS.out _ Z.out.th Z.out.hv).mono ?_
                    rintro e w6 ⟨rfl, b6⟩
                    have Z6 := hid (Z.out.go b6)
                    clear b6
                    generalize listTo th hv ck 4 = lt at *
                    go_wp2
                    go_roundw
                    case rel => exact ⟨k + 1, e0, p, cn, th, hv, by omega, by go_num, rfl, rfl, Z6.out⟩
                    case measure => simp [intOf]; omega
                · have q3 : ((ops k).kind == 3) = false := by simp; omega
                  have q4 : ((ops k).kind == 4) = false := by simp; omega
                  have q5 : ((ops k).kind == 5) = false := by simp; omega
                  have q6 : ((ops k).kind == 6) = false := by simp; omega
                  have q7 : ((ops k).kind == 7) = false := by simp; omega
                  go_wp2
                  go_roundw
                  case rel => exact ⟨k + 1, e0, p, cn, th, hv, by omega, by go_num, rfl, rfl, HJ.out⟩
                  case measure => simp [intOf]; omega
      · have hkl : k = len := by omega
        subst hkl
        go_wp2
        go_ret
        exact ⟨rfl, HI.out.blw⟩
  · go_wp2
    go_ret
    exact ⟨rfl, Blw.rfl _⟩
end Go.Proofs.YtalaldfgjgpacaaDoor
