import Derived.Test.YtalaldfgjgpacabGreatDoorQA
import Derived.BigQuiet
namespace Go.Proofs.YtalaldfgjgpacabGreatDoor
set_option linter.unusedVariables false
set_option linter.unusedSimpArgs false
open Go.RowKit
attribute [local go_sem ↓] Go.wp_at_zero Go.wp_at_succ

theorem cell_blwY {w w' : World} (hb : Blw w w') {b o : Nat} {v : Value} (h : w.cell? ⟨b, o, none⟩ = some v) : w'.cell? ⟨b, o, none⟩ = some v :=
  ((bcell hb).1 b o (World.block_lt_of_cell? w ⟨b, o, none⟩ h)).trans h
theorem any_take_succ {α : Type} (P : α → Bool) {l : List α} {k : Nat} {x : α} (h : l[k]? = some x) : (l.take (k + 1)).any P = ((l.take k).any P || P x) := by
  rw [List.take_add_one, h]; simp
theorem any_of_get {α : Type} (P : α → Bool) {l : List α} {k : Nat} {x : α} (h : l[k]? = some x) (hp : P x = true) : l.any P = true :=
  List.any_eq_true.2 ⟨x, List.mem_of_getElem? h, hp⟩

set_option maxRecDepth 100000 in
set_option maxHeartbeats 8000000 in
/-- Has it been taken away? -/
theorem taken_any {w : World} {n : Nat} {ea : Option Addr} {ecap : Nat} {evs : List Ev} {us : Nat → Nat} {g : Nat} {K : Vec} (h : EvsIn w n ea evs us) (hn : n ≤ 3) (hlen : evs.length ≤ 1000) (hg : w.heap[g]? = some (.cells (intsV (vecL n K)) 3)) (e : Ev) (he : e.who < n) (u : Value) (hu : ∃ uo ul uc, u = .slice uo ul uc) :
    Calls Tryz.prog 62 #[.slice ea evs.length ecap, .slice (some ⟨g, 0, none⟩) n n, .agg #[.int .i64 e.who, .int .i64 e.num, .int .i64 e.kind, .int .i64 e.cart, .int .i64 e.item, .int .i64 e.value, u]] w fun z w' => z = .returned (.bool (takenB evs K e)) ∧ Blw w w' := by
  obtain ⟨an, han⟩ : ∃ an, an = takenB evs K e := ⟨_, rfl⟩
  rw [← han]
  have HAN := hid han
  obtain ⟨uo, ul, uc, rfl⟩ := hu
  obtain ⟨len, hln⟩ : ∃ len, len = evs.length := ⟨_, rfl⟩
  rw [← hln] at hlen ⊢
  have HLN := hid hln
  obtain ⟨ew, hew⟩ : ∃ x, x = e.who := ⟨_, rfl⟩
  obtain ⟨en, hen⟩ : ∃ x : Int, x = (e.num : Int) := ⟨_, rfl⟩
  obtain ⟨ek, hek⟩ : ∃ x, x = e.kind := ⟨_, rfl⟩
  obtain ⟨ec, hec⟩ : ∃ x, x = e.cart := ⟨_, rfl⟩
  obtain ⟨ei, hei⟩ : ∃ x, x = e.item := ⟨_, rfl⟩
  obtain ⟨ev, hev⟩ : ∃ x, x = e.value := ⟨_, rfl⟩
  rw [← hew] at he
  rw [← hew, ← hen, ← hek, ← hec, ← hei, ← hev]
  have HE := hid (And.intro hew (And.intro hen (And.intro hec hei)))
  have hew0 : (0 : Int) ≤ (ew : Int) := Int.natCast_nonneg _
  have hew1 : (ew : Int) < (n : Int) := by omega
  obtain ⟨W1, hW1⟩ : ∃ W1, W1 = w.alloc (.cells #[.int .i64 ew, .int .i64 en, .int .i64 ek, .int .i64 ec, .int .i64 ei, .int .i64 ev, .slice uo ul uc] 95) := ⟨_, rfl⟩
  have HW1 := hid hW1
  have bE : Blw w W1 := by rw [hW1]; exact (Blw.rfl w).al _
  have hE1 : W1.heap[w.heap.size]? = some (.cells #[.int .i64 ew, .int .i64 en, .int .i64 ek, .int .i64 ec, .int .i64 ei, .int .i64 ev, .slice uo ul uc] 95) := by rw [hW1]; exact hp_new w _
  have BE := hid bE
  have HBE := hid hE1
  have H1 := hid (h.blw bE)
  have HG := hid (bE.bk' hg)
  have H := hid h
  clear h hg han hln hew hen hek hec hei hev hW1 bE hE1
  go_enter Tryz.func62, Tryz.ntmps62
  go_wp2_with fail
  try rw [← HW1.out]
  go_loopw [7] (fun i wr => ∃ k : Nat, k ≤ len ∧ i = .int .i64 k ∧ (evs.take k).any (takerB K e) = false ∧ Blw W1 wr) (fun i _ => len - (intOf i).toNat)
  case atStart => exact ⟨0, by omega, rfl, by simp, Blw.rfl _⟩
  case round =>
    obtain ⟨k, hk, rfl, hno, hb⟩ := hrel
    have HNO := hid hno
    have HB := hid hb
    clear hno
    by_cases hlt : k < len
    · obtain ⟨f, hf⟩ : ∃ f, evs[k]? = some f := ⟨_, List.getElem?_eq_getElem (by rw [← HLN.out]; exact hlt)⟩
      obtain ⟨eg, rfl, hcl⟩ := (H1.out.blw hb).cells k f hf
      have hsn := (H1.out.blw hb).seen k f hf
      have hfw := H1.out.whos k f hf
      have HYES : Hid (takerB K e f = true → an = true) := fun hp => by rw [HAN.out]; exact any_of_get _ hf hp
      have HNX : Hid (takerB K e f = false → (evs.take (k + 1)).any (takerB K e) = false) := fun hp => by rw [any_take_succ _ hf, HNO.out, hp]; rfl
      obtain ⟨kw, hkw⟩ : ∃ x : Int, x = (K f.who : Int) := ⟨_, rfl⟩
      obtain ⟨sv, hsv⟩ : ∃ x : Int, x = (f.seen ew : Int) := ⟨_, rfl⟩
      obtain ⟨fw, hfw'⟩ : ∃ x, x = f.who := ⟨_, rfl⟩
      obtain ⟨fn, hfn⟩ : ∃ x : Int, x = (f.num : Int) := ⟨_, rfl⟩
      obtain ⟨fk, hfk⟩ : ∃ x, x = f.kind := ⟨_, rfl⟩
      obtain ⟨fc, hfc⟩ : ∃ x, x = f.cart := ⟨_, rfl⟩
      obtain ⟨fi, hfi⟩ : ∃ x, x = f.item := ⟨_, rfl⟩
      obtain ⟨fv, hfv⟩ : ∃ x, x = f.value := ⟨_, rfl⟩
      have cg : wr.cell? ⟨g, fw, none⟩ = some (.int .i64 kw) := by rw [blk_cell (hb.bk' HG.out), hkw, hfw']; exact vecL_at _ hfw
      have cs : wr.cell? ⟨us k, ew, none⟩ = some (.int .i64 sv) := by rw [blk_cell hsn, hsv]; exact vecL_at _ he
      have HTKE : Hid (takerB K e f = (((fc == ec) && ((fk == 6) || ((fi == ei) && ((fk == 4) || (fk == 5))))) && (decide (fn ≤ kw) && decide (en ≤ sv)))) := by
        show takerB K e f = _
        unfold takerB Ev.here
        rw [hfc, hfk, hfi, hfn, hkw, hsv, HE.out.1, HE.out.2.1, HE.out.2.2.1, HE.out.2.2.2]
        congr 1
        congr 1
        · rw [decide_eq_decide]; omega
        · rw [decide_eq_decide]; omega
      have c0 : wr.cell? ⟨eg, k * 7, none⟩ = some (.int .i64 fw) := by rw [hfw']; exact hcl 0 (by omega)
      have c1 : wr.cell? ⟨eg, k * 7 + 1, none⟩ = some (.int .i64 fn) := by rw [hfn]; exact hcl 1 (by omega)
      have c2 : wr.cell? ⟨eg, k * 7 + 2, none⟩ = some (.int .i64 fk) := by rw [hfk]; exact hcl 2 (by omega)
      have c3 : wr.cell? ⟨eg, k * 7 + 3, none⟩ = some (.int .i64 fc) := by rw [hfc]; exact hcl 3 (by omega)
      have c4 : wr.cell? ⟨eg, k * 7 + 4, none⟩ = some (.int .i64 fi) := by rw [hfi]; exact hcl 4 (by omega)
      have c5 : wr.cell? ⟨eg, k * 7 + 5, none⟩ = some (.int .i64 fv) := by rw [hfv]; exact hcl 5 (by omega)
      have c6 : wr.cell? ⟨eg, k * 7 + 6, none⟩ = some (.slice (some ⟨us k, 0, none⟩) n n) := hcl 6 (by omega)
      have hfw0 : (0 : Int) ≤ (fw : Int) := Int.natCast_nonneg _
      have hfw1 : (fw : Int) < (n : Int) := by rw [hfw']; omega
      obtain ⟨W2, hW2⟩ : ∃ W2, W2 = wr.alloc (.cells #[.int .i64 fw, .int .i64 fn, .int .i64 fk, .int .i64 fc, .int .i64 fi, .int .i64 fv, .slice (some ⟨us k, 0, none⟩) n n] 95) := ⟨_, rfl⟩
      have HW2 := hid hW2
      have bF : Blw wr W2 := by rw [hW2]; exact (Blw.rfl wr).al _
      have hf2 : W2.heap[wr.heap.size]? = some (.cells #[.int .i64 fw, .int .i64 fn, .int .i64 fk, .int .i64 fc, .int .i64 fi, .int .i64 fv, .slice (some ⟨us k, 0, none⟩) n n] 95) := by rw [hW2]; exact hp_new wr _
      have he2 := bF.bk' (hb.bk' HBE.out)
      have y0 : W2.cell? ⟨wr.heap.size, 0, none⟩ = some (.int .i64 fw) := by rw [blk_cell hf2]; rfl
      have y1 : W2.cell? ⟨wr.heap.size, 1, none⟩ = some (.int .i64 fn) := by rw [blk_cell hf2]; rfl
      have y2 : W2.cell? ⟨wr.heap.size, 2, none⟩ = some (.int .i64 fk) := by rw [blk_cell hf2]; rfl
      have y3 : W2.cell? ⟨wr.heap.size, 3, none⟩ = some (.int .i64 fc) := by rw [blk_cell hf2]; rfl
      have y4 : W2.cell? ⟨wr.heap.size, 4, none⟩ = some (.int .i64 fi) := by rw [blk_cell hf2]; rfl
      have y6 : W2.cell? ⟨wr.heap.size, 6, none⟩ = some (.slice (some ⟨us k, 0, none⟩) n n) := by rw [blk_cell hf2]; rfl
      have z0 : W2.cell? ⟨w.heap.size, 0, none⟩ = some (.int .i64 ew) := by rw [blk_cell he2]; rfl
      have z1 : W2.cell? ⟨w.heap.size, 1, none⟩ = some (.int .i64 en) := by rw [blk_cell he2]; rfl
      have z3 : W2.cell? ⟨w.heap.size, 3, none⟩ = some (.int .i64 ec) := by rw [blk_cell he2]; rfl
      have z4 : W2.cell? ⟨w.heap.size, 4, none⟩ = some (.int .i64 ei) := by rw [blk_cell he2]; rfl
      have cg2 := cell_blwY bF cg
      have cs2 := cell_blwY bF cs
      have BF := hid (hb.tr bF)
      subst hW2
      clear HW2 hb hcl hsn hfw hkw hsv hfw' hfn hfk hfc hfi hfv bF hf2 he2 cg cs hf
      cases hc : (fc == ec)
      · have HF : Hid (takerB K e f = false) := by
          show takerB K e f = false
          rw [HTKE.out]; simp [*]
        clear HYES HTKE
        go_wp2
        go_quiet (fail)
        go_wp2
        go_roundw
        case rel => exact ⟨k + 1, by omega, by go_num, HNX.out HF.out, Blw.drn BF.out _⟩
        case measure => simp [intOf]; omega
      · cases h6 : (fk == (6 : Int))
        · cases hi : (fi == ei)
          · have HF : Hid (takerB K e f = false) := by
              show takerB K e f = false
              rw [HTKE.out]; simp [*]
            clear HYES HTKE
            go_wp2
            go_quiet (fail)
            go_wp2
            go_roundw
            case rel => exact ⟨k + 1, by omega, by go_num, HNX.out HF.out, Blw.drn BF.out _⟩
            case measure => simp [intOf]; omega
          · cases h4 : (fk == (4 : Int))
            · cases h5 : (fk == (5 : Int))
              · have HF : Hid (takerB K e f = false) := by
                  show takerB K e f = false
                  rw [HTKE.out]; simp [*]
                clear HYES HTKE
                go_wp2
                go_quiet (fail)
                go_wp2
                go_roundw
                case rel => exact ⟨k + 1, by omega, by go_num, HNX.out HF.out, Blw.drn BF.out _⟩
                case measure => simp [intOf]; omega
              · by_cases d1 : fn ≤ kw
                · have d1' : decide (fn ≤ kw) = true := decide_eq_true d1
                  clear d1
                  by_cases d2 : en ≤ sv
                  · have d2' : decide (en ≤ sv) = true := decide_eq_true d2
                    clear d2
                    have HF : Hid (an = true) := HYES.out (by rw [HTKE.out]; simp [*])
                    clear HYES HTKE HNX
                    go_wp2
                    go_quiet (fail)
                    go_wp2
                    go_ret
                    exact ⟨by rw [HF.out]; rfl, BE.out.tr (Blw.drn BF.out _)⟩
                  · have d2' : decide (en ≤ sv) = false := decide_eq_false d2
                    clear d2
                    have HF : Hid (takerB K e f = false) := by
                      show takerB K e f = false
                      rw [HTKE.out]; simp [*]
                    clear HYES HTKE
                    go_wp2
                    go_quiet (fail)
                    go_wp2
                    go_roundw
                    case rel => exact ⟨k + 1, by omega, by go_num, HNX.out HF.out, Blw.drn BF.out _⟩
                    case measure => simp [intOf]; omega
                · have d1' : decide (fn ≤ kw) = false := decide_eq_false d1
                  clear d1
                  have HF : Hid (takerB K e f = false) := by
                    show takerB K e f = false
                    rw [HTKE.out]; simp [*]
                  clear HYES HTKE
                  go_wp2
                  go_quiet (fail)
                  go_wp2
                  go_roundw
                  case rel => exact ⟨k + 1, by omega, by go_num, HNX.out HF.out, Blw.drn BF.out _⟩
                  case measure => simp [intOf]; omega
            · by_cases d1 : fn ≤ kw
              · have d1' : decide (fn ≤ kw) = true := decide_eq_true d1
                clear d1
                by_cases d2 : en ≤ sv
                · have d2' : decide (en ≤ sv) = true := decide_eq_true d2
                  clear d2
                  have HF : Hid (an = true) := HYES.out (by rw [HTKE.out]; simp [*])
                  clear HYES HTKE HNX
                  go_wp2
                  go_quiet (fail)
                  go_wp2
                  go_ret
                  exact ⟨by rw [HF.out]; rfl, BE.out.tr (Blw.drn BF.out _)⟩
                · have d2' : decide (en ≤ sv) = false := decide_eq_false d2
                  clear d2
                  have HF : Hid (takerB K e f = false) := by
                    show takerB K e f = false
                    rw [HTKE.out]; simp [*]
                  clear HYES HTKE
                  go_wp2
                  go_quiet (fail)
                  go_wp2
                  go_roundw
                  case rel => exact ⟨k + 1, by omega, by go_num, HNX.out HF.out, Blw.drn BF.out _⟩
                  case measure => simp [intOf]; omega
              · have d1' : decide (fn ≤ kw) = false := decide_eq_false d1
                clear d1
                have HF : Hid (takerB K e f = false) := by
                  show takerB K e f = false
                  rw [HTKE.out]; simp [*]
                clear HYES HTKE
                go_wp2
                go_quiet (fail)
                go_wp2
                go_roundw
                case rel => exact ⟨k + 1, by omega, by go_num, HNX.out HF.out, Blw.drn BF.out _⟩
                case measure => simp [intOf]; omega
        · by_cases d1 : fn ≤ kw
          · have d1' : decide (fn ≤ kw) = true := decide_eq_true d1
            clear d1
            by_cases d2 : en ≤ sv
            · have d2' : decide (en ≤ sv) = true := decide_eq_true d2
              clear d2
              have HF : Hid (an = true) := HYES.out (by rw [HTKE.out]; simp [*])
              clear HYES HTKE HNX
              go_wp2
              go_quiet (fail)
              go_wp2
              go_ret
              exact ⟨by rw [HF.out]; rfl, BE.out.tr (Blw.drn BF.out _)⟩
            · have d2' : decide (en ≤ sv) = false := decide_eq_false d2
              clear d2
              have HF : Hid (takerB K e f = false) := by
                show takerB K e f = false
                rw [HTKE.out]; simp [*]
              clear HYES HTKE
              go_wp2
              go_quiet (fail)
              go_wp2
              go_roundw
              case rel => exact ⟨k + 1, by omega, by go_num, HNX.out HF.out, Blw.drn BF.out _⟩
              case measure => simp [intOf]; omega
          · have d1' : decide (fn ≤ kw) = false := decide_eq_false d1
            clear d1
            have HF : Hid (takerB K e f = false) := by
              show takerB K e f = false
              rw [HTKE.out]; simp [*]
            clear HYES HTKE
            go_wp2
            go_quiet (fail)
            go_wp2
            go_roundw
            case rel => exact ⟨k + 1, by omega, by go_num, HNX.out HF.out, Blw.drn BF.out _⟩
            case measure => simp [intOf]; omega
    · have hkn : k = len := by omega
      subst hkn
      have HFIN : Hid (an = false) := by
        show an = false
        rw [HAN.out]
        have := HNO.out
        rw [HLN.out, List.take_length] at this
        exact this
      clear hb
      go_wp2
      go_ret
      exact ⟨by rw [HFIN.out]; rfl, BE.out.tr HB.out⟩
end Go.Proofs.YtalaldfgjgpacabGreatDoor
