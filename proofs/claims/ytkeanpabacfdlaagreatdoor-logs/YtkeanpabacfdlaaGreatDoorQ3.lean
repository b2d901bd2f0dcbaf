import Derived.Test.YtkeanpabacfdlaaGreatDoorQ2
import Derived.BigQuiet
namespace Go.Proofs.YtkeanpabacfdlaaGreatDoor
set_option linter.unusedVariables false
set_option linter.unusedSimpArgs false
open Go.RowKit

set_option maxHeartbeats 400000 in
theorem dot_any (e : Bs) (w : World) (h : e.length = 7) :
    Calls Tryz.prog 108 #[strV e] w fun r w' => r = .returned (strV (dotOf e)) ∧ w' = w := by
  have hz := bs_size e
  have HX := hid (bs_extract e 2 4)
  unfold strV dotOf
  go_enter Tryz.func108, Tryz.ntmps108
  go_wp2
  go_ret
  exact ⟨by rw [← HX.out]; rfl, rfl⟩

/-- The document's piece in memory. -/
structure PcAt (w : World) (a b : Value) (D E : List Bs) : Prop where
  d : Ls w 0 a D
  e : Ls w 0 b E
  dl : D.length ≤ 20000
  el : E.length ≤ 20000
  e7 : ∀ x ∈ E, x.length = 7
  d2 : ∀ x ∈ D, ∃ c0 c1 : UInt8, x = [c0, c1] ∧ 48 ≤ c0.toNat

theorem PcAt.on {w w' : World} {a b : Value} {D E : List Bs} (h : PcAt w a b D E) (hb : Blw w w') : PcAt w' a b D E := ⟨h.d.on hb, h.e.on hb, h.dl, h.el, h.e7, h.d2⟩

theorem Blw.drn {a w : World} (h : Blw a w) (n : Nat) : Blw a (w.drewN n) := ⟨h.os, h.tape, h.output, h.size, fun k hk => h.block k hk⟩

/-- Join on its way. -/
structure JR (w wr : World) (a b a' b' : Value) (X Y : List Bs) : Prop where
  a : wr.heap[w.heap.size]? = some (.cells #[a, b] 101)
  b : wr.heap[w.heap.size + 1]? = some (.cells #[a', b'] 101)
  c : wr.heap[w.heap.size + 1 + 1]? = some (.cells #[.slice none 0 0, .slice none 0 0] 101)
  o : ∃ o1 o2, wr.heap[w.heap.size + 1 + 1 + 1]? = some (.cells #[o1, o2] 101) ∧ Ls wr 0 o1 X ∧ Ls wr 0 o2 Y
  bl : Blw w wr

theorem JR.on {w wr w2 : World} {a b a' b' : Value} {X Y : List Bs} (h : JR w wr a b a' b' X Y) (k : Blw wr w2) : JR w w2 a b a' b' X Y := by
  obtain ⟨o1, o2, ho, h1, h2⟩ := h.o
  have lt : ∀ {b : Nat} {ob : Obj}, wr.heap[b]? = some ob → b < wr.heap.size := fun hh => (Array.getElem?_eq_some_iff.1 hh).1
  exact ⟨(k.bk _ (lt h.a)).trans h.a, (k.bk _ (lt h.b)).trans h.b, (k.bk _ (lt h.c)).trans h.c, ⟨o1, o2, (k.bk _ (lt ho)).trans ho, h1.on k, h2.on k⟩, h.bl.tr k⟩

theorem Ls.sc {w : World} {a : Nat} {v : Value} {L : List Bs} (h : Ls w a v L) {b o : Nat} {C : Array Value} {t : TypeId} (hb : w.heap[b]? = some (.cells C t)) (ht : t ≠ 9) (u : Value) : Ls (w.setCell ⟨b, o, none⟩ u) a v L := by
  refine h.kept fun g C' _ hg => Below.heap_setCell w ⟨b, o, none⟩ u g ?_
  rintro rfl
  rw [hg] at hb
  simp only [Option.some.injEq, Obj.cells.injEq] at hb
  exact ht hb.2.1.symm

theorem JR.set1 {w wr : World} {a b a' b' : Value} {X Y X' : List Bs} (h : JR w wr a b a' b' X Y) (v : Value) (hv : Ls wr 0 v X') : JR w (wr.setCell ⟨w.heap.size + 1 + 1 + 1, 0, none⟩ v) a b a' b' X' Y := by
  obtain ⟨o1, o2, ho, h1, h2⟩ := h.o
  refine ⟨?_, ?_, ?_, ⟨v, o2, ?_, hv.sc ho (by decide) v, h2.sc ho (by decide) v⟩, h.bl.sc _ _ _ (by omega)⟩
  · rw [Below.heap_setCell wr _ v _ (by simp <;> omega)]; exact h.a
  · rw [Below.heap_setCell wr _ v _ (by simp <;> omega)]; exact h.b
  · rw [Below.heap_setCell wr _ v _ (by simp <;> omega)]; exact h.c
  · rw [heap_setCell_self ho]; rfl
theorem JR.set2 {w wr : World} {a b a' b' : Value} {X Y Y' : List Bs} (h : JR w wr a b a' b' X Y) (v : Value) (hv : Ls wr 0 v Y') : JR w (wr.setCell ⟨w.heap.size + 1 + 1 + 1, 1, none⟩ v) a b a' b' X Y' := by
  obtain ⟨o1, o2, ho, h1, h2⟩ := h.o
  refine ⟨?_, ?_, ?_, ⟨o1, v, ?_, h1.sc ho (by decide) v, hv.sc ho (by decide) v⟩, h.bl.sc _ _ _ (by omega)⟩
  · rw [Below.heap_setCell wr _ v _ (by simp <;> omega)]; exact h.a
  · rw [Below.heap_setCell wr _ v _ (by simp <;> omega)]; exact h.b
  · rw [Below.heap_setCell wr _ v _ (by simp <;> omega)]; exact h.c
  · rw [heap_setCell_self ho]; rfl

theorem JR.start {w : World} {a b a' b' : Value} {X : List Bs} (h : Ls w 0 a X) : JR w ((((w.alloc (.cells #[a, b] 101)).alloc (.cells #[a', b'] 101)).alloc (.cells #[.slice none 0 0, .slice none 0 0] 101)).alloc (.cells #[a, .slice none 0 0] 101)) a b a' b' X [] := by
  have hb : Blw w ((((w.alloc (.cells #[a, b] 101)).alloc (.cells #[a', b'] 101)).alloc (.cells #[.slice none 0 0, .slice none 0 0] 101)).alloc (.cells #[a, .slice none 0 0] 101)) := ((((Blw.rfl _).al _).al _).al _).al _
  refine ⟨?_, ?_, ?_, ⟨a, .slice none 0 0, ?_, h.on hb, Ls.nil _ _⟩, hb⟩
  · exact hp_old _ (by simp <;> omega) (hp_old _ (by simp <;> omega) (hp_old _ (by simp <;> omega) (hp_new _ _)))
  · exact hp_old _ (by simp <;> omega) (hp_old _ (by simp <;> omega) (by simpa using hp_new (w.alloc (.cells #[a, b] 101)) _))
  · exact hp_old _ (by simp <;> omega) (by simpa using hp_new ((w.alloc (.cells #[a, b] 101)).alloc (.cells #[a', b'] 101)) _)
  · simpa using hp_new (((w.alloc (.cells #[a, b] 101)).alloc (.cells #[a', b'] 101)).alloc (.cells #[.slice none 0 0, .slice none 0 0] 101)) _

theorem insAll_take (f : Bs → Bs) (c : Bs → Bool) (out L : List Bs) (k : Nat) (hk : k < L.length) : insAll f c out (L.take (k + 1)) = if c (L.getD k []) then withL (insAll f c out (L.take k)) (f (L.getD k [])) else insAll f c out (L.take k) := by
  rw [list_app_idx L k [] hk, insAll_app, insAll_cons, insAll_nil]

set_option maxRecDepth 100000 in
set_option maxHeartbeats 4000000 in
theorem rjoin_any (a b a' b' : Value) (D E D' E' : List Bs) (w : World) (h : PcAt w a b D E) (h' : PcAt w a' b' D' E') :
    Calls Tryz.prog 87 #[.agg #[a, b], .agg #[a', b']] w fun e w' => ∃ u v, e = .returned (.agg #[u, v]) ∧ Ls w' 0 u (joinD D D') ∧ Ls w' 0 v (joinE D E D' E') ∧ Blw w w' := by
  obtain ⟨ao, ca, rfl, oa⟩ := h.d.op
  obtain ⟨bo, cb, rfl, ob⟩ := h.e.op
  obtain ⟨ao', ca', rfl, oa'⟩ := h'.d.op
  obtain ⟨bo', cb', rfl, ob'⟩ := h'.e.op
  have H := hid h
  have H' := hid h'
  have OB := hid ob
  have OA' := hid oa'
  have OB' := hid ob'
  have ld := h.dl
  have le := h.el
  have ld' := h'.dl
  have le' := h'.el
  clear oa ob oa' ob' h h'
  go_enter Tryz.func87, Tryz.ntmps87
  go_wp2
  go_loopw [6] (fun i wr => ∃ k : Nat, k ≤ D'.length ∧ i = .int .i64 k ∧ JR w wr (.slice ao D.length ca) (.slice bo E.length cb) (.slice ao' D'.length ca') (.slice bo' E'.length cb') (insAll id (fun d => !hasL D d) D (D'.take k)) []) (fun i _ => D'.length - (intOf i).toNat)
  case atStart => exact ⟨0, by omega, rfl, by rw [List.take_zero, insAll_nil]; exact JR.start H.out.d⟩
  case round =>
    obtain ⟨k, hk, rfl, hJ⟩ := hrel
    have J := hid hJ
    obtain ⟨o1, o2, ho, l1, l2⟩ := hJ.o
    have e0 : wr.cell? ⟨w.heap.size + 1, 0, none⟩ = some (.slice ao' D'.length ca') := blk_cell hJ.b 0
    have e1 : wr.cell? ⟨w.heap.size, 0, none⟩ = some (.slice ao D.length ca) := blk_cell hJ.a 0
    have L1 := hid l1
    have HO := hid ho
    clear hJ ho l1 l2
    by_cases hlt : k < D'.length
    · obtain ⟨g, rfl, hg, hc⟩ := OA'.out (by omega)
      have hck := (bcell J.out.bl).1 g k hg
      rw [hc k hlt] at hck
      unfold strV at hck
      have HS := hid (insAll_take id (fun d => !hasL D d) D D' k hlt)
      have hln := insAll_len id (fun d => !hasL D d) (D'.take k) D
      have htl : (D'.take k).length ≤ k := by simp; omega
      generalize insAll id (fun d => !hasL D d) D (D'.take k) = X at *
      clear hc
      generalize D'.getD k [] = x at *
      go_wp2_with fail
      refine (has_any D x _ 0 _ (H.out.d.on J.out.bl) (by omega)).mono ?_
      rintro e w2 ⟨rfl, rfl⟩
      cases hh : hasL D x
      · have e2 : w2.cell? ⟨w.heap.size + 1 + 1 + 1, 0, none⟩ = some o1 := blk_cell HO.out 0
        go_wp2_with fail
        refine (with_any X x _ 0 _ L1.out (by omega)).mono ?_
        rintro e w3 ⟨v', rfl, h3, b3⟩
        obtain ⟨vo, vc, rfl, _⟩ := h3.op
        have J3 := hid (J.out.on b3)
        obtain ⟨p1, p2, ho3, _, _⟩ := J3.out.o
        have e3 : (w3.cell? ⟨w.heap.size + 1 + 1 + 1, 0, none⟩) = some p1 := blk_cell ho3 0
        have f3 := blk_frozen ho3 0
        have J4 := hid (J3.out.set1 _ (h3.weak (Nat.zero_le _)))
        clear ho3 h3 b3 e0 e1 e2
        go_wp2
        go_roundw
        case rel => exact ⟨k + 1, by omega, by go_num, by rw [HS.out, hh]; exact J4.out⟩
        case measure => simp [intOf]; omega
      · go_wp2
        go_roundw
        case rel => exact ⟨k + 1, by omega, by go_num, by rw [HS.out, hh]; exact J.out⟩
        case measure => simp [intOf]; omega
    · have hkn : k = D'.length := by omega
      subst hkn
      have J1 : Hid (JR w wr (.slice ao D.length ca) (.slice bo E.length cb) (.slice ao' D'.length ca') (.slice bo' E'.length cb') (joinD D D') []) := by
        show JR w wr _ _ _ _ _ _
        have := J.out; rw [List.take_length] at this; exact this
      clear J L1 HO e1 hlt hk
      obtain ⟨X, hX⟩ : ∃ X, X = joinD D D' := ⟨_, rfl⟩
      rw [← hX] at J1
      have HX := hid hX
      clear hX
      go_wp2
      clear e0
      go_loopw [9] (fun i wr => ∃ k : Nat, k ≤ E.length ∧ i = .int .i64 k ∧ JR w wr (.slice ao D.length ca) (.slice bo E.length cb) (.slice ao' D'.length ca') (.slice bo' E'.length cb') X (insAll id (fun e => hasL E' e || !hasL D' (dotOf e)) [] (E.take k))) (fun i _ => E.length - (intOf i).toNat)
      case atStart => exact ⟨0, by omega, rfl, by rw [List.take_zero, insAll_nil]; exact J1.out⟩
      case round =>
        obtain ⟨k, hk, rfl, hJ⟩ := hrel
        have J := hid hJ
        obtain ⟨o1, o2, ho, l1, l2⟩ := hJ.o
        have e0 : wr.cell? ⟨w.heap.size + 1, 0, none⟩ = some (.slice ao' D'.length ca') := blk_cell hJ.b 0
        have e0' : wr.cell? ⟨w.heap.size + 1, 1, none⟩ = some (.slice bo' E'.length cb') := blk_cell hJ.b 1
        have e1 : wr.cell? ⟨w.heap.size, 1, none⟩ = some (.slice bo E.length cb) := blk_cell hJ.a 1
        have L2 := hid l2
        have HO := hid ho
        clear hJ ho l1 l2
        by_cases hlt : k < E.length
        · obtain ⟨g, rfl, hg, hc⟩ := OB.out (by omega)
          have hck := (bcell J.out.bl).1 g k hg
          rw [hc k hlt] at hck
          unfold strV at hck
          have HS := hid (insAll_take id (fun e => hasL E' e || !hasL D' (dotOf e)) [] E k hlt)
          have hln := insAll_len id (fun e => hasL E' e || !hasL D' (dotOf e)) (E.take k) []
          have htl : (E.take k).length ≤ k := by simp; omega
          have h7 := hid (H.out.e7 (E.getD k []) (by rw [List.getD_eq_getElem?_getD, List.getElem?_eq_getElem hlt]; exact List.getElem_mem hlt))
          generalize insAll id (fun e => hasL E' e || !hasL D' (dotOf e)) [] (E.take k) = Y at *
          clear hc
          generalize E.getD k [] = x at *
          go_wp2_with fail
          refine (has_any E' x _ 0 _ (H'.out.e.on J.out.bl) (by omega)).mono ?_
          rintro e w2 ⟨rfl, rfl⟩
          go_wp2_with fail
          go_quiet (first | (go_at_call 108; refine Calls.quiet_of_same (dot_any x _ h7.out)) | (go_at_call 122; refine Calls.quiet_of_same (has_any D' (dotOf x) _ 0 _ (H'.out.d.on (J.out.bl.drn _)) (by omega))))
          cases hh : hasL E' x
          · cases hd : hasL D' (dotOf x)
            · have J' := hid (J.out.on ((Blw.rfl w2).drn nq))
              have e2 : (w2.drewN nq).cell? ⟨w.heap.size + 1 + 1 + 1, 1, none⟩ = some o2 := blk_cell HO.out 1
              go_wp2_with fail
              refine (with_any Y x _ 0 _ (L2.out.on ((Blw.rfl w2).drn nq)) (by simp at hln; omega)).mono ?_
              rintro e w3 ⟨v', rfl, h3, b3⟩
              obtain ⟨vo, vc, rfl, _⟩ := h3.op
              have J3 := hid (J'.out.on b3)
              obtain ⟨p1, p2, ho3, _, _⟩ := J3.out.o
              have e3 : (w3.cell? ⟨w.heap.size + 1 + 1 + 1, 1, none⟩) = some p2 := blk_cell ho3 1
              have f3 := blk_frozen ho3 1
              have J4 := hid (J3.out.set2 _ (h3.weak (Nat.zero_le _)))
              clear ho3 h3 b3 e0 e0' e1 e2
              go_wp2
              go_roundw
              case rel => exact ⟨k + 1, by omega, by go_num, by rw [HS.out, hh, hd]; exact J4.out⟩
              case measure => simp [intOf]; omega
            · go_wp2
              go_roundw
              case rel => exact ⟨k + 1, by omega, by go_num, by rw [HS.out, hh, hd]; exact J.out.on ((Blw.rfl w2).drn nq)⟩
              case measure => simp [intOf]; omega
          · have J' := hid (J.out.on ((Blw.rfl w2).drn nq))
            have e2 : (w2.drewN nq).cell? ⟨w.heap.size + 1 + 1 + 1, 1, none⟩ = some o2 := blk_cell HO.out 1
            go_wp2_with fail
            refine (with_any Y x _ 0 _ (L2.out.on ((Blw.rfl w2).drn nq)) (by simp at hln; omega)).mono ?_
            rintro e w3 ⟨v', rfl, h3, b3⟩
            obtain ⟨vo, vc, rfl, _⟩ := h3.op
            have J3 := hid (J'.out.on b3)
            obtain ⟨p1, p2, ho3, _, _⟩ := J3.out.o
            have e3 : (w3.cell? ⟨w.heap.size + 1 + 1 + 1, 1, none⟩) = some p2 := blk_cell ho3 1
            have f3 := blk_frozen ho3 1
            have J4 := hid (J3.out.set2 _ (h3.weak (Nat.zero_le _)))
            clear ho3 h3 b3 e0 e0' e1 e2
            go_wp2
            go_roundw
            case rel => exact ⟨k + 1, by omega, by go_num, by rw [HS.out, hh]; exact J4.out⟩
            case measure => simp [intOf]; omega
        · have hkn : k = E.length := by omega
          subst hkn
          have J2 : Hid (JR w wr (.slice ao D.length ca) (.slice bo E.length cb) (.slice ao' D'.length ca') (.slice bo' E'.length cb') X (insAll id (fun e => hasL E' e || !hasL D' (dotOf e)) [] E)) := by
            show JR w wr _ _ _ _ _ _
            have := J.out; rw [List.take_length] at this; exact this
          clear J L2 HO e0 e0' hlt hk J1
          obtain ⟨Y0, hY⟩ : ∃ Y, Y = insAll id (fun e => hasL E' e || !hasL D' (dotOf e)) [] E := ⟨_, rfl⟩
          have hln0 := insAll_len id (fun e => hasL E' e || !hasL D' (dotOf e)) E []
          rw [← hY] at J2 hln0
          have HY := hid hY
          clear hY
          go_wp2
          clear e1
          go_loopw [13] (fun i wr => ∃ k : Nat, k ≤ E'.length ∧ i = .int .i64 k ∧ JR w wr (.slice ao D.length ca) (.slice bo E.length cb) (.slice ao' D'.length ca') (.slice bo' E'.length cb') X (insAll id (fun e => !hasL D (dotOf e)) Y0 (E'.take k))) (fun i _ => E'.length - (intOf i).toNat)
          case atStart => exact ⟨0, by omega, rfl, by rw [List.take_zero, insAll_nil]; exact J2.out⟩
          case round =>
            obtain ⟨k, hk, rfl, hJ⟩ := hrel
            have J := hid hJ
            obtain ⟨o1, o2, ho, l1, l2⟩ := hJ.o
            have e0 : wr.cell? ⟨w.heap.size + 1, 1, none⟩ = some (.slice bo' E'.length cb') := blk_cell hJ.b 1
            have e1 : wr.cell? ⟨w.heap.size, 0, none⟩ = some (.slice ao D.length ca) := blk_cell hJ.a 0
            have L1 := hid l1
            have L2 := hid l2
            have HO := hid ho
            clear hJ ho l1 l2 J2
            by_cases hlt : k < E'.length
            · obtain ⟨g, rfl, hg, hc⟩ := OB'.out (by omega)
              have hck := (bcell J.out.bl).1 g k hg
              rw [hc k hlt] at hck
              unfold strV at hck
              have HS := hid (insAll_take id (fun e => !hasL D (dotOf e)) Y0 E' k hlt)
              have hln := insAll_len id (fun e => !hasL D (dotOf e)) (E'.take k) Y0
              have htl : (E'.take k).length ≤ k := by simp; omega
              have h7 := hid (H'.out.e7 (E'.getD k []) (by rw [List.getD_eq_getElem?_getD, List.getElem?_eq_getElem hlt]; exact List.getElem_mem hlt))
              simp only [List.length_nil, Nat.zero_add] at hln0
              generalize insAll id (fun e => !hasL D (dotOf e)) Y0 (E'.take k) = Y at *
              clear hc
              generalize E'.getD k [] = x at *
              obtain ⟨w2, hw2⟩ : ∃ w2, w2 = wr := ⟨_, rfl⟩
              subst hw2
              go_wp2_with fail
              go_quiet (first | (go_at_call 108; refine Calls.quiet_of_same (dot_any x _ h7.out)) | (go_at_call 122; refine Calls.quiet_of_same (has_any D (dotOf x) _ 0 _ (H.out.d.on (J.out.bl.drn _)) (by omega))))
              cases hd : hasL D (dotOf x)
              · have J' := hid (J.out.on ((Blw.rfl w2).drn nq))
                have e2 : (w2.drewN nq).cell? ⟨w.heap.size + 1 + 1 + 1, 1, none⟩ = some o2 := blk_cell HO.out 1
                go_wp2_with fail
                refine (with_any Y x _ 0 _ (L2.out.on ((Blw.rfl w2).drn nq)) (by simp at hln; omega)).mono ?_
                rintro e w3 ⟨v', rfl, h3, b3⟩
                obtain ⟨vo, vc, rfl, _⟩ := h3.op
                have J3 := hid (J'.out.on b3)
                obtain ⟨p1, p2, ho3, _, _⟩ := J3.out.o
                have e3 : (w3.cell? ⟨w.heap.size + 1 + 1 + 1, 1, none⟩) = some p2 := blk_cell ho3 1
                have f3 := blk_frozen ho3 1
                have J4 := hid (J3.out.set2 _ (h3.weak (Nat.zero_le _)))
                clear ho3 h3 b3 e0  e1 e2
                go_wp2
                go_roundw
                case rel => exact ⟨k + 1, by omega, by go_num, by rw [HS.out, hd]; exact J4.out⟩
                case measure => simp [intOf]; omega
              · go_wp2
                go_roundw
                case rel => exact ⟨k + 1, by omega, by go_num, by rw [HS.out, hd]; exact J.out.on ((Blw.rfl w2).drn nq)⟩
                case measure => simp [intOf]; omega
            · have hkn : k = E'.length := by omega
              subst hkn
              have J3 : Hid (JR w wr (.slice ao D.length ca) (.slice bo E.length cb) (.slice ao' D'.length ca') (.slice bo' E'.length cb') X (insAll id (fun e => !hasL D (dotOf e)) Y0 E')) := by
                show JR w wr _ _ _ _ _ _
                have := J.out; rw [List.take_length] at this; exact this
              have L2' : Hid (Ls wr 0 o2 (insAll id (fun e => !hasL D (dotOf e)) Y0 E')) := by
                show Ls wr 0 o2 _
                have := L2.out; rw [List.take_length] at this; exact this
              obtain ⟨c1, k1, rfl, _⟩ := L1.out.op
              obtain ⟨c2, k2, rfl, _⟩ := L2'.out.op
              have q0 : wr.cell? ⟨w.heap.size + 1 + 1 + 1, 0, none⟩ = some (.slice c1 X.length k1) := blk_cell HO.out 0
              have q1 : wr.cell? ⟨w.heap.size + 1 + 1 + 1, 1, none⟩ = some (.slice c2 (insAll id (fun e => !hasL D (dotOf e)) Y0 E').length k2) := blk_cell HO.out 1
              have r0 : wr.cell? ⟨w.heap.size + 1 + 1, 0, none⟩ = some (.slice none 0 0) := blk_cell J3.out.c 0
              have r1 : wr.cell? ⟨w.heap.size + 1 + 1, 1, none⟩ = some (.slice none 0 0) := blk_cell J3.out.c 1
              have z0 := blk_frozen J3.out.c 0
              have z1 := blk_frozen J3.out.c 1
              have HJE : Hid (joinE D E D' E' = insAll id (fun e => !hasL D (dotOf e)) Y0 E') := by rw [HY.out]; exact rfl
              generalize insAll id (fun e => !hasL D (dotOf e)) Y0 E' = Z at *
              clear L2 J e1
              go_wp2
              have hs2 := heap_setCell_self (o := 0) J3.out.c (.slice c1 X.length k1)
              refine bodyPost_ret (v := .agg #[.slice c1 X.length k1, .slice c2 Z.length k2]) (by simp [results, Tryz.results87, go_sem, r0, r1]) rfl ⟨_, _, rfl, ?_, ?_, ?_⟩
              · rw [← HX.out]; exact (L1.out.sc J3.out.c (by decide) _).sc hs2 (by decide) _
              · rw [HJE.out]; exact (L2'.out.sc J3.out.c (by decide) _).sc hs2 (by decide) _
              · exact (J3.out.bl.sc _ _ _ (by omega)).sc _ _ _ (by omega)
end Go.Proofs.YtkeanpabacfdlaaGreatDoor
