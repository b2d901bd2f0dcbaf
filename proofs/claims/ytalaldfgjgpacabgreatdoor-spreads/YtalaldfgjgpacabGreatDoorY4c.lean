import Derived.Test.YtalaldfgjgpacabGreatDoorQA
import Derived.Test.YtalaldfgjgpacabGreatDoorY4b
import Derived.BigQuiet
namespace Go.Proofs.YtalaldfgjgpacabGreatDoor
set_option linter.unusedVariables false
set_option linter.unusedSimpArgs false
open Go.RowKit
attribute [local go_sem ↓] Go.wp_at_zero Go.wp_at_succ

theorem meantTo_len (evs : List Ev) (K : Vec) (c : Int) (hv : ∀ e, e ∈ evs → -99 ≤ e.value ∧ e.value ≤ 99) (hl : evs.length ≤ 27) : ∀ k, (meantTo evs K c k).length ≤ 7 * k
  | 0 => by simp [meantTo]
  | k + 1 => by
    have ih := meantTo_len evs K c hv hl k
    have hb := sumE_bd evs K c (k : Int) hv evs.length (Nat.le_refl _)
    have hi := itoa_len (sumE evs K c (k : Int) evs.length) (by omega) (by omega)
    rw [meantTo]
    split
    · split <;> simp <;> omega
    · omega

set_option maxRecDepth 100000 in
set_option maxHeartbeats 16000000 in
/-- What a cart has, by the history. -/
theorem meant_any {w : World} {n : Nat} {ea : Option Addr} {ecap : Nat} {evs : List Ev} {us : Nat → Nat} {g : Nat} {K : Vec} (h : EvsIn w n ea evs us) (hn : n ≤ 3) (hlen : evs.length ≤ 27) (hval : ∀ e, e ∈ evs → -99 ≤ e.value ∧ e.value ≤ 99) (hg : w.heap[g]? = some (.cells (intsV (vecL n K)) 3)) (c : Int) :
    Calls Tryz.prog 37 #[.slice ea evs.length ecap, .slice (some ⟨g, 0, none⟩) n n, .int .i64 c] w fun z w' => z = .returned (.string ⟨(meantTo evs K c 4).toArray⟩) ∧ Blw w w' := by
  have hcv := conv1
  obtain ⟨len, hln⟩ : ∃ len, len = evs.length := ⟨_, rfl⟩
  have HV := hid hval
  have HML := hid (meantTo_len evs K c hval hlen)
  rw [← hln] at hlen ⊢
  have HLN := hid hln
  have H := hid h
  have HG := hid hg
  clear h hg hln hval
  go_enter Tryz.func37, Tryz.ntmps37
  go_wp2
  go_loopw [7, 8] (fun s i wr => ∃ it : Nat, it ≤ 4 ∧ i = .int .i64 it ∧ s = .string ⟨(meantTo evs K c it).toArray⟩ ∧ Blw w wr) (fun _ i _ => 4 - (intOf i).toNat)
  case atStart => exact ⟨0, by omega, rfl, rfl, Blw.rfl _⟩
  case round =>
    obtain ⟨it, hit, rfl, rfl, hb⟩ := hrel
    have BW := hid hb
    have HX : Hid (meantTo evs K c (it + 1) = if 0 < cntE evs K c (it : Int) evs.length then (if (meantTo evs K c it).isEmpty then [] else meantTo evs K c it ++ [44]) ++ [itemB it] ++ Lib.itoa (sumE evs K c (it : Int) evs.length) else meantTo evs K c it) := rfl
    have hml := HML.out it
    clear hb
    by_cases hlt : it < 4
    · obtain ⟨tx, htx⟩ : ∃ tx, tx = meantTo evs K c it := ⟨_, rfl⟩
      rw [← htx] at HX hml
      rw [← htx]
      clear htx
      have d4 : decide ((it : Int) < (4 : Int)) = true := by simp; omega
      go_wp2_with fail
      go_loopw [9, 10, 11] (fun nn ss i w5 => ∃ k : Nat, k ≤ len ∧ i = .int .i64 k ∧ nn = .int .i64 (cntE evs K c (it : Int) k) ∧ ss = .int .i64 (sumE evs K c (it : Int) k) ∧ Blw wr w5) (fun _ _ i _ => len - (intOf i).toNat)
      case atStart => exact ⟨0, by omega, rfl, rfl, rfl, Blw.rfl _⟩
      case round =>
        obtain ⟨k, hk, rfl, rfl, rfl, hb⟩ := hrel
        have hcb := cntE_bd evs K c (it : Int) k
        have hsb := sumE_bd evs K c (it : Int) HV.out k (by rw [← HLN.out]; exact hk)
        by_cases hlt2 : k < len
        · obtain ⟨f, hf⟩ : ∃ f, evs[k]? = some f := ⟨_, List.getElem?_eq_getElem (by rw [← HLN.out]; exact hlt2)⟩
          have hb0 := BW.out.tr hb
          obtain ⟨eg, rfl, hcl⟩ := (H.out.blw hb0).cells k f hf
          have hfwn := H.out.whos k f hf
          have hgd : evs.getD k ev0 = f := by rw [List.getD_eq_getElem?_getD, hf]; rfl
          have HCN : Hid ((liesB evs K c (it : Int) f = true → cntE evs K c (it : Int) (k + 1) = cntE evs K c (it : Int) k + 1 ∧ sumE evs K c (it : Int) (k + 1) = sumE evs K c (it : Int) k + f.value) ∧ (liesB evs K c (it : Int) f = false → cntE evs K c (it : Int) (k + 1) = cntE evs K c (it : Int) k ∧ sumE evs K c (it : Int) (k + 1) = sumE evs K c (it : Int) k)) := by
            constructor
            · intro hl
              unfold cntE sumE
              rw [sumI, sumI, hgd, if_pos hl, if_pos hl]
              exact ⟨rfl, rfl⟩
            · intro hl
              unfold cntE sumE
              rw [sumI, sumI, hgd, hl]
              exact ⟨by simp, by simp⟩
          obtain ⟨kw, hkw⟩ : ∃ x : Int, x = (K f.who : Int) := ⟨_, rfl⟩
          obtain ⟨fw, hfw'⟩ : ∃ x, f.who = x := ⟨_, rfl⟩
          obtain ⟨fn, hfn⟩ : ∃ x : Int, (f.num : Int) = x := ⟨_, rfl⟩
          obtain ⟨fk, hfk⟩ : ∃ x, f.kind = x := ⟨_, rfl⟩
          obtain ⟨fc, hfc⟩ : ∃ x, f.cart = x := ⟨_, rfl⟩
          obtain ⟨fi, hfi⟩ : ∃ x, f.item = x := ⟨_, rfl⟩
          obtain ⟨fv, hfv⟩ : ∃ x, f.value = x := ⟨_, rfl⟩
          have HFF := hid (And.intro hfw' (And.intro hfn (And.intro hfk (And.intro hfc (And.intro hfi hfv)))))
          have hfvb := HV.out f (List.mem_of_getElem? hf)
          rw [hfv] at hfvb HCN
          have cg : wr.cell? ⟨g, fw, none⟩ = some (.int .i64 kw) := by rw [blk_cell (hb0.bk' HG.out), hkw, ← hfw']; exact vecL_at _ hfwn
          have HLE : Hid (liesB evs K c (it : Int) f = (((fk == 3) || (fk == 4)) && ((fc == c) && ((fi == (it : Int)) && decide (fn ≤ kw))) && !takenB evs K f)) := by
            show liesB evs K c (it : Int) f = _
            unfold liesB layB Ev.puts
            rw [hfc, hfk, hfi, ← hfn, hkw]
            congr 4
            rw [decide_eq_decide]; omega
          have c0 : wr.cell? ⟨eg, k * 7, none⟩ = some (.int .i64 fw) := by rw [← hfw']; exact hcl 0 (by omega)
          have c1 : wr.cell? ⟨eg, k * 7 + 1, none⟩ = some (.int .i64 fn) := by rw [← hfn]; exact hcl 1 (by omega)
          have c2 : wr.cell? ⟨eg, k * 7 + 2, none⟩ = some (.int .i64 fk) := by rw [← hfk]; exact hcl 2 (by omega)
          have c3 : wr.cell? ⟨eg, k * 7 + 3, none⟩ = some (.int .i64 fc) := by rw [← hfc]; exact hcl 3 (by omega)
          have c4 : wr.cell? ⟨eg, k * 7 + 4, none⟩ = some (.int .i64 fi) := by rw [← hfi]; exact hcl 4 (by omega)
          have c5 : wr.cell? ⟨eg, k * 7 + 5, none⟩ = some (.int .i64 fv) := by rw [← hfv]; exact hcl 5 (by omega)
          have c6 : wr.cell? ⟨eg, k * 7 + 6, none⟩ = some (.slice (some ⟨us k, 0, none⟩) n n) := hcl 6 (by omega)
          have hfw0 : (0 : Int) ≤ (fw : Int) := Int.natCast_nonneg _
          have hfw1 : (fw : Int) < (n : Int) := by rw [← hfw']; omega
          have bF : Blw wr (wr.alloc (.cells #[.int .i64 fw, .int .i64 fn, .int .i64 fk, .int .i64 fc, .int .i64 fi, .int .i64 fv, .slice (some ⟨us k, 0, none⟩) n n] 95)) := (Blw.rfl wr).al _
          have cg2 := cell_blwY bF cg
          have Y5 := hid (show (wr.alloc (.cells #[.int .i64 fw, .int .i64 fn, .int .i64 fk, .int .i64 fc, .int .i64 fi, .int .i64 fv, .slice (some ⟨us k, 0, none⟩) n n] 95)).cell? ⟨wr.heap.size, 5, none⟩ = some (.int .i64 fv) from blk_cell (hp_new wr _) 5)
          have BF := hid (hb.tr bF)
          obtain ⟨cn, hcn⟩ : ∃ cn, cn = cntE evs K c (it : Int) k := ⟨_, rfl⟩
          obtain ⟨sm, hsm⟩ : ∃ sm, sm = sumE evs K c (it : Int) k := ⟨_, rfl⟩
          rw [← hcn, ← hsm] at HCN
          rw [← hcn] at hcb
          rw [← hsm] at hsb
          rw [← hcn, ← hsm]
          clear hcn hsm hb hb0 hcl hkw hfw' hfn hfk hfc hfi hfv bF cg hf hgd HX
          cases h3 : (fk == (3 : Int))
          · cases h4 : (fk == (4 : Int))
            · have HF : Hid (liesB evs K c (it : Int) f = false) := by
                show liesB evs K c (it : Int) f = false
                rw [HLE.out]; simp [*]
              clear HLE
              have HN := hid (HCN.out.2 HF.out)
              go_wp2
              go_quiet (fail)
              go_wp2
              go_roundw
              case rel => exact ⟨k + 1, by omega, by go_num, by rw [HN.out.1], by rw [HN.out.2], Blw.drn BF.out _⟩
              case measure => simp [intOf]; omega
            · cases hc : (fc == c)
              · have HF : Hid (liesB evs K c (it : Int) f = false) := by
                  show liesB evs K c (it : Int) f = false
                  rw [HLE.out]; simp [*]
                clear HLE
                have HN := hid (HCN.out.2 HF.out)
                go_wp2
                go_quiet (fail)
                go_wp2
                go_roundw
                case rel => exact ⟨k + 1, by omega, by go_num, by rw [HN.out.1], by rw [HN.out.2], Blw.drn BF.out _⟩
                case measure => simp [intOf]; omega
              · cases hi : (fi == (it : Int))
                · have HF : Hid (liesB evs K c (it : Int) f = false) := by
                    show liesB evs K c (it : Int) f = false
                    rw [HLE.out]; simp [*]
                  clear HLE
                  have HN := hid (HCN.out.2 HF.out)
                  go_wp2
                  go_quiet (fail)
                  go_wp2
                  go_roundw
                  case rel => exact ⟨k + 1, by omega, by go_num, by rw [HN.out.1], by rw [HN.out.2], Blw.drn BF.out _⟩
                  case measure => simp [intOf]; omega
                · by_cases d1 : fn ≤ kw
                  · have d1' : decide (fn ≤ kw) = true := decide_eq_true d1
                    clear d1
                    have HTA := hid (fun (wx : World) (hb : Blw w wx) => taken_any (ecap := ecap) (H.out.blw hb) hn (by rw [← HLN.out]; omega) (hb.bk' HG.out) f hfwn (.slice (some ⟨us k, 0, none⟩) n n) ⟨_, _, _, rfl⟩)
                    rw [← HLN.out, HFF.out.1, HFF.out.2.1, HFF.out.2.2.1, HFF.out.2.2.2.1, HFF.out.2.2.2.2.1, HFF.out.2.2.2.2.2] at HTA
                    obtain ⟨gn, hgn⟩ : ∃ gn, gn = takenB evs K f := ⟨_, rfl⟩
                    rw [← hgn] at HTA
                    cases gn
                    · have HF : Hid (liesB evs K c (it : Int) f = true) := by
                        show liesB evs K c (it : Int) f = true
                        rw [HLE.out, ← hgn]; simp [*]
                      clear HLE hgn
                      have HN := hid (HCN.out.1 HF.out)
                      go_wp2
                      go_quiet (fail)
                      go_wp2_with fail
                      refine (HTA.out _ (BW.out.tr (Blw.drn BF.out _))).mono ?_
                      rintro e w6 ⟨rfl, b6⟩
                      have B6 := hid ((Blw.drn BF.out _).tr b6)
                      have v6 : w6.cell? ⟨wr.heap.size, 5, none⟩ = some (.int .i64 fv) := cell_blwY b6 (show World.cell? _ _ = _ from Y5.out)
                      clear b6
                      go_wp2
                      go_roundw
                      case rel => exact ⟨k + 1, by omega, by go_num, by rw [HN.out.1], by rw [HN.out.2], B6.out⟩
                      case measure => simp [intOf]; omega
                    · have HF : Hid (liesB evs K c (it : Int) f = false) := by
                        show liesB evs K c (it : Int) f = false
                        rw [HLE.out, ← hgn]; simp [*]
                      clear HLE hgn
                      have HN := hid (HCN.out.2 HF.out)
                      go_wp2
                      go_quiet (fail)
                      go_wp2_with fail
                      refine (HTA.out _ (BW.out.tr (Blw.drn BF.out _))).mono ?_
                      rintro e w6 ⟨rfl, b6⟩
                      have B6 := hid ((Blw.drn BF.out _).tr b6)
                      clear b6
                      go_wp2
                      go_roundw
                      case rel => exact ⟨k + 1, by omega, by go_num, by rw [HN.out.1], by rw [HN.out.2], B6.out⟩
                      case measure => simp [intOf]; omega
                  · have d1' : decide (fn ≤ kw) = false := decide_eq_false d1
                    clear d1
                    have HF : Hid (liesB evs K c (it : Int) f = false) := by
                      show liesB evs K c (it : Int) f = false
                      rw [HLE.out]; simp [*]
                    clear HLE
                    have HN := hid (HCN.out.2 HF.out)
                    go_wp2
                    go_quiet (fail)
                    go_wp2
                    go_roundw
                    case rel => exact ⟨k + 1, by omega, by go_num, by rw [HN.out.1], by rw [HN.out.2], Blw.drn BF.out _⟩
                    case measure => simp [intOf]; omega
          · cases hc : (fc == c)
            · have HF : Hid (liesB evs K c (it : Int) f = false) := by
                show liesB evs K c (it : Int) f = false
                rw [HLE.out]; simp [*]
              clear HLE
              have HN := hid (HCN.out.2 HF.out)
              go_wp2
              go_quiet (fail)
              go_wp2
              go_roundw
              case rel => exact ⟨k + 1, by omega, by go_num, by rw [HN.out.1], by rw [HN.out.2], Blw.drn BF.out _⟩
              case measure => simp [intOf]; omega
            · cases hi : (fi == (it : Int))
              · have HF : Hid (liesB evs K c (it : Int) f = false) := by
                  show liesB evs K c (it : Int) f = false
                  rw [HLE.out]; simp [*]
                clear HLE
                have HN := hid (HCN.out.2 HF.out)
                go_wp2
                go_quiet (fail)
                go_wp2
                go_roundw
                case rel => exact ⟨k + 1, by omega, by go_num, by rw [HN.out.1], by rw [HN.out.2], Blw.drn BF.out _⟩
                case measure => simp [intOf]; omega
              · by_cases d1 : fn ≤ kw
                · have d1' : decide (fn ≤ kw) = true := decide_eq_true d1
                  clear d1
                  have HTA := hid (fun (wx : World) (hb : Blw w wx) => taken_any (ecap := ecap) (H.out.blw hb) hn (by rw [← HLN.out]; omega) (hb.bk' HG.out) f hfwn (.slice (some ⟨us k, 0, none⟩) n n) ⟨_, _, _, rfl⟩)
                  rw [← HLN.out, HFF.out.1, HFF.out.2.1, HFF.out.2.2.1, HFF.out.2.2.2.1, HFF.out.2.2.2.2.1, HFF.out.2.2.2.2.2] at HTA
                  obtain ⟨gn, hgn⟩ : ∃ gn, gn = takenB evs K f := ⟨_, rfl⟩
                  rw [← hgn] at HTA
                  cases gn
                  · have HF : Hid (liesB evs K c (it : Int) f = true) := by
                      show liesB evs K c (it : Int) f = true
                      rw [HLE.out, ← hgn]; simp [*]
                    clear HLE hgn
                    have HN := hid (HCN.out.1 HF.out)
                    go_wp2
                    go_quiet (fail)
                    go_wp2_with fail
                    refine (HTA.out _ (BW.out.tr (Blw.drn BF.out _))).mono ?_
                    rintro e w6 ⟨rfl, b6⟩
                    have B6 := hid ((Blw.drn BF.out _).tr b6)
                    have v6 : w6.cell? ⟨wr.heap.size, 5, none⟩ = some (.int .i64 fv) := cell_blwY b6 (show World.cell? _ _ = _ from Y5.out)
                    clear b6
                    go_wp2
                    go_roundw
                    case rel => exact ⟨k + 1, by omega, by go_num, by rw [HN.out.1], by rw [HN.out.2], B6.out⟩
                    case measure => simp [intOf]; omega
                  · have HF : Hid (liesB evs K c (it : Int) f = false) := by
                      show liesB evs K c (it : Int) f = false
                      rw [HLE.out, ← hgn]; simp [*]
                    clear HLE hgn
                    have HN := hid (HCN.out.2 HF.out)
                    go_wp2
                    go_quiet (fail)
                    go_wp2_with fail
                    refine (HTA.out _ (BW.out.tr (Blw.drn BF.out _))).mono ?_
                    rintro e w6 ⟨rfl, b6⟩
                    have B6 := hid ((Blw.drn BF.out _).tr b6)
                    clear b6
                    go_wp2
                    go_roundw
                    case rel => exact ⟨k + 1, by omega, by go_num, by rw [HN.out.1], by rw [HN.out.2], B6.out⟩
                    case measure => simp [intOf]; omega
                · have d1' : decide (fn ≤ kw) = false := decide_eq_false d1
                  clear d1
                  have HF : Hid (liesB evs K c (it : Int) f = false) := by
                    show liesB evs K c (it : Int) f = false
                    rw [HLE.out]; simp [*]
                  clear HLE
                  have HN := hid (HCN.out.2 HF.out)
                  go_wp2
                  go_quiet (fail)
                  go_wp2
                  go_roundw
                  case rel => exact ⟨k + 1, by omega, by go_num, by rw [HN.out.1], by rw [HN.out.2], Blw.drn BF.out _⟩
                  case measure => simp [intOf]; omega
        · have hkn : k = len := by omega
          subst hkn
          rw [← HLN.out] at HX
          have BB := hid (BW.out.tr hb)
          clear hb
          obtain ⟨cn, hcn⟩ : ∃ cn, cn = cntE evs K c (it : Int) k := ⟨_, rfl⟩
          obtain ⟨sm, hsm⟩ : ∃ sm, sm = sumE evs K c (it : Int) k := ⟨_, rfl⟩
          rw [← hcn, ← hsm] at HX
          rw [← hcn] at hcb
          rw [← hsm] at hsb
          rw [← hcn, ← hsm]
          clear hcn hsm
          by_cases hpos : 0 < cn
          · rw [if_pos hpos] at HX
            have d0 : decide (0 < cn) = true := decide_eq_true hpos
            have HD := hid (decimal_any sm (by omega) (by omega))
            have hil := itoa_len sm (by omega) (by omega)
            generalize Lib.itoa sm = il at *
            have HIB : Hid (UInt8.ofNat (65 + (it : Int)).toNat = itemB it) := by
              show UInt8.ofNat (65 + (it : Int)).toNat = UInt8.ofNat (65 + it)
              congr 1
            cases he : tx.isEmpty
            · rw [he] at HX
              clear hpos
              go_wp2_with fail
              refine (HD.out _).mono ?_
              rintro e w7 ⟨rfl, b7⟩
              have B7 := hid (BB.out.tr b7)
              clear b7
              go_wp2
              go_roundw
              case rel => exact ⟨it + 1, by omega, by go_num, by rw [HX.out]; simp [bytes_app, itemB], B7.out.al _⟩
              case measure => simp [intOf]; omega
            · have he2 : tx = [] := by simpa using he
              subst he2
              rw [he] at HX
              clear he hpos
              go_wp2_with fail
              refine (HD.out _).mono ?_
              rintro e w7 ⟨rfl, b7⟩
              have B7 := hid (BB.out.tr b7)
              clear b7
              go_wp2
              go_roundw
              case rel => exact ⟨it + 1, by omega, by go_num, by rw [HX.out]; simp [bytes_app, itemB], B7.out.al _⟩
              case measure => simp [intOf]; omega
          · rw [if_neg hpos] at HX
            have d0 : decide (0 < cn) = false := decide_eq_false hpos
            clear hpos
            go_wp2
            go_roundw
            case rel => exact ⟨it + 1, by omega, by go_num, by rw [HX.out], BB.out⟩
            case measure => simp [intOf]; omega
    · have h4 : it = 4 := by omega
      subst h4
      go_wp2
      go_ret
      exact ⟨rfl, BW.out⟩
end Go.Proofs.YtalaldfgjgpacabGreatDoor
