import Derived.Test.YtalaldfgjgpacaaGreatDoorQC
namespace Go.Proofs.YtalaldfgjgpacaaGreatDoor
set_option linter.unusedVariables false
set_option linter.unusedSimpArgs false
open Go.RowKit
attribute [local go_sem ↓] Go.wp_at_zero Go.wp_at_succ

theorem RefTo.pre {cb me n had ln : Nat} {lt ac : Value} {dk : Bs} {X Y : List Bs} {M : List Pc} {w w1 w' : World} (h : RefTo cb me n had ln lt ac dk X Y M w1 w') (hb : Blw w w1) : RefTo cb me n had ln lt ac dk X Y M w w' := by
  obtain ⟨u, v, lt', ls', h1, h2, h3, h4, h5⟩ := h.at_
  exact ⟨⟨u, v, lt', ls', h1, h2, h3, h4, h5.imp id (fun ⟨g, e, k⟩ => ⟨g, e, Nat.le_trans hb.sz k⟩)⟩, (hb.b2 _).tr (h.bs.weak (fun i hi => .inl hi))⟩
theorem RefTo.post {cb me n had ln : Nat} {lt ac : Value} {dk : Bs} {X Y : List Bs} {M : List Pc} {w w1 w' : World} (h : RefTo cb me n had ln lt ac dk X Y M w w1) (hb : Blw w1 w') : RefTo cb me n had ln lt ac dk X Y M w w' := by
  obtain ⟨u, v, lt', ls', h1, h2, h3, h4, h5⟩ := h.at_
  exact ⟨⟨u, v, lt', ls', hb.bq h1, h2.on hb, h3.on hb, ⟨h4.1.on hb, h4.2.on hb⟩, h5⟩, h.bs.tr (hb.b2 _)⟩

set_option maxRecDepth 100000 in
set_option maxHeartbeats 1000000 in
theorem event_no (cb me n : Nat) (a b : Value) (had : Nat) (lt ac : Value) (dk : Bs) (D E : List Bs) (p : Pc) (s : ByteArray) (gone made : Bs) (v : Int) (w : World) (hn : n ≤ 3) (hs : s.size ≤ maxLen) (h : w.heap[cb]? = some (.cells (refArr me n a b had lt ac dk) 123)) (hP : PcAt w a b D E) (hK : ∀ r : Int, knownL D r = p.count r)
    (hE : evErr me n p s.data.toList ≠ 0) :
    Calls Tryz.prog 93 #[.pointer (some ⟨cb, 0, none⟩), .string s, .string ⟨gone.toArray⟩, .string ⟨made.toArray⟩, .int .i64 v] w fun e w' => e = .returned (.tuple #[.string ⟨#[]⟩, .int .i64 (evErr me n p s.data.toList)]) ∧ w' = w := by
  have HM := hid (may_any cb me n a b had lt ac dk D E p s w hn hs h hP hK)
  have HKn := hid (known_any cb me n a b had lt ac dk D E (me : Int) w h hP)
  rw [hK] at HKn
  have c0 := (ref_n h).1
  have hcnt := Pc.count_le p (me : Int)
  by_cases ht : tokErr n p s.data.toList = 0
  · have hev : evErr me n p s.data.toList = if 9 ≤ p.count (me : Int) then 4 else 0 := by unfold evErr; rw [if_pos ht]
    have h9 : 9 ≤ p.count (me : Int) := by
      rcases Nat.lt_or_ge (p.count (me : Int)) 9 with h9 | h9
      · rw [if_neg (by omega)] at hev; exact absurd hev hE
      · exact h9
    rw [if_pos h9] at hev
    rw [hev]
    rw [ht] at HM
    generalize p.count (me : Int) = d at *
    clear hE hev h hP hK ht
    go_enter Tryz.func93, Tryz.ntmps93
    go_wp2_with fail
    refine HM.out.mono ?_
    rintro e w1 ⟨rfl, hw1⟩
    subst w1
    go_wp2_with fail
    refine HKn.out.mono ?_
    rintro e w1 ⟨rfl, hw1⟩
    subst w1
    go_wp2
    go_ret2
    exact ⟨rfl, rfl⟩
  · have hev : evErr me n p s.data.toList = tokErr n p s.data.toList := by unfold evErr; rw [if_neg ht]
    rw [hev]
    generalize tokErr n p s.data.toList = t at *
    have ht' : (t != 0) = true := by simpa using ht
    clear hE hev h hP hK ht HKn
    go_enter Tryz.func93, Tryz.ntmps93
    go_wp2_with fail
    refine HM.out.mono ?_
    rintro e w1 ⟨rfl, hw1⟩
    subst w1
    go_wp2
    go_ret2
    exact ⟨rfl, rfl⟩

/-- The delta on its way: its block, its dots. -/
structure ER (w2 wr : World) (X : List Bs) : Prop where
  o : ∃ o1, wr.heap[w2.heap.size + 1]? = some (.cells #[o1, .slice none 0 0] 120) ∧ Ls wr 0 o1 X
  bl : Blw w2 wr

theorem ER.on {w2 wr w' : World} {X : List Bs} (h : ER w2 wr X) (hb : Blw wr w') : ER w2 w' X := by
  obtain ⟨o1, h1, h2⟩ := h.o
  exact ⟨⟨o1, hb.bq h1, h2.on hb⟩, h.bl.tr hb⟩
theorem ER.set {w2 wr : World} {X X' : List Bs} (h : ER w2 wr X) (v : Value) (hv : Ls wr 0 v X') : ER w2 (wr.setCell ⟨w2.heap.size + 1, 0, none⟩ v) X' := by
  obtain ⟨o1, h1, h2⟩ := h.o
  exact ⟨⟨v, by rw [heap_setCell_self h1]; rfl, hv.sc h1 (by decide) v⟩, h.bl.sc _ _ _ (by omega)⟩
theorem ER.start (w2 : World) (x : Bs) : ER w2 ((w2.alloc (.cells #[strV x] 9)).alloc (.cells #[.slice (some ⟨w2.heap.size, 0, none⟩) 1 1, .slice none 0 0] 120)) [x] := by
  refine ⟨⟨_, by simpa using hp_new (w2.alloc (.cells #[strV x] 9)) _, ?_⟩, ((Blw.rfl _).al _).al _⟩
  exact ⟨rfl, .inr ⟨w2.heap.size, 1, #[strV x], rfl, Nat.zero_le _, hp_old _ (by simp) (hp_new _ _), Nat.le_refl _, by unfold maxLen; omega, rfl, rfl⟩⟩

set_option maxRecDepth 100000 in
set_option maxHeartbeats 4000000 in
theorem event_yes (cb me n : Nat) (a b : Value) (had ln : Nat) (lt ac : Value) (dk : Bs) (D E : List Bs) (ls : List Value) (p q : Pc) (s : ByteArray) (gone made : Bs) (v : Int) (w : World) (hn : n ≤ 3) (hme : me < n) (hs : s.size ≤ maxLen)
    (h : w.heap[cb]? = some (.cells (refArr me n a b had lt ac dk) 123)) (ha : Ls w 0 a D) (hb : Ls w 0 b E) (hL : LateAt w lt ln ls) (hln : ln ≤ 4) (hh : had ≤ 1000000000) (hdk : dk.length ≤ 1000000000000)
    (hR : RelP p D E) (hp : p.fine) (hE : evErr me n p s.data.toList = 0) (T : Bs → Bool) (hT : ∀ x : Bs, x.length = 7 → T x = (!(gone == []) && (x.take gone.length == gone))) (hgl : gone.length ≤ 2)
    (hml : made = [] ∨ made.length = 2) (hv0 : -99 ≤ v) (hv1 : v ≤ 99) (k : Nat) (hk : k = p.count (me : Int)) (hk9 : k < 9) (hq : q.fine) (EE : List Bs) (hEE : EE = if made = [] then [] else [made ++ dotT me k ++ valL v]) (hRq : RelP q (insAll dotOf T [dotT me k] E) EE)
    (L : List Pc) (hLat : Lats w L ls) (M : List Pc) (e7 : M = if ln = 4 then (L ++ [q]).drop 1 else L ++ [q]) (had' ln' : Nat) (dk' : Bs) (X' Y' : List Bs) (e1 : had' = had + 1) (e2 : ln' = if ln = 4 then 4 else ln + 1) (e3 : dk' = dk ++ frameL ([68] ++ q.text)) (e4 : X' = joinD D (insAll dotOf T [dotT me k] E)) (e5 : Y' = joinE D E (insAll dotOf T [dotT me k] E) EE) (tk : Bs) (e6 : tk = (p.join q).digsTo n) :
    Calls Tryz.prog 93 #[.pointer (some ⟨cb, 0, none⟩), .string s, .string ⟨gone.toArray⟩, .string ⟨made.toArray⟩, .int .i64 v] w fun e w' => e = .returned (.tuple #[.string ⟨tk.toArray⟩, .int .i64 0]) ∧ RefTo cb me n had' ln' lt ac dk' X' Y' M w w' := by
  have hP := hR.pcAt hp.ok ha hb
  have HM := hid (may_any cb me n a b had lt ac dk D E p s w hn hs h hP (hR.known hp.ok))
  have HKn := hid (known_any cb me n a b had lt ac dk D E (me : Int) w h hP)
  rw [hR.known hp.ok, ← hk] at HKn
  rw [show tokErr n p s.data.toList = 0 by
    by_cases ht : tokErr n p s.data.toList = 0
    · exact ht
    · unfold evErr at hE; rw [if_neg ht] at hE; exact absurd hE ht] at HM
  have HRest := hid (And.intro e1 (And.intro e2 (And.intro e3 (And.intro e4 (And.intro e5 e6)))))
  have HRq := hid hRq
  have HLat := hid hLat
  have HM7 := hid e7
  have HR := hid hR
  have HTT := hid hT
  have HPP := hid (And.intro hp hq)
  have HEE := hid hEE
  have HLL := hid hL
  have HH := hid h
  have HPc := hid hP
  have HDg := hid (fun d wx hd => digits_any d 1 wx hd (by omega))
  have c0 := (ref_n h).1
  have c0' := (ref_n h).2.2.2.1
  obtain ⟨bo, kb, rfl, ob⟩ := hb.op
  have OB := hid ob
  have lE : E.length ≤ 27 := hR.lenE hp.ok
  clear e1 e2 e3 e4 e5 e6 e7 hLat hRq hR hT hp hq hEE hL h hP hE hk ob ha hb
  go_enter Tryz.func93, Tryz.ntmps93
  go_wp2_with fail
  refine HM.out.mono ?_
  rintro e w1 ⟨rfl, hw1⟩
  subst w1
  go_wp2_with fail
  refine HKn.out.mono ?_
  rintro e w1 ⟨rfl, hw1⟩
  subst w1
  go_wp2_with fail
  refine (HDg.out me _ (by omega)).mono ?_
  rintro e w1 ⟨rfl, b1⟩
  go_wp2_with fail
  refine (HDg.out (k + 1) _ (by omega)).mono ?_
  rintro e w2 ⟨rfl, b2⟩
  have B2 := hid (b1.tr b2)
  have s2 := B2.out.sz
  rw [show lastD me 1 = [dig me] by simp [lastD, Nat.mod_eq_of_lt (show me < 10 by omega)], show lastD (k + 1) 1 = [dig (k + 1)] by simp [lastD, Nat.mod_eq_of_lt (show k + 1 < 10 by omega)]]
  have hown : ByteArray.mk [dig me].toArray ++ ByteArray.mk [dig (k + 1)].toArray = ByteArray.mk (dotT me k).toArray := ByteArray.mk_append_mk _ _
  have hdl : (dotT me k).length = 2 := rfl
  clear b1 b2 c0 c0'
  go_wp2_with fail
  go_loopw [18] (fun i wr => ∃ j : Nat, j ≤ E.length ∧ i = .int .i64 j ∧ ER w2 wr (insAll dotOf T [dotT me k] (E.take j))) (fun i _ => E.length - (intOf i).toNat)
  case atStart => exact ⟨0, by omega, rfl, by rw [List.take_zero, insAll_nil]; exact ER.start w2 (dotT me k)⟩
  case round =>
    obtain ⟨j, hj, rfl, hJ⟩ := hrel
    have J := hid hJ
    have BW := hid (B2.out.tr hJ.bl)
    have c3 := (ref_n (BW.out.bq HH.out)).2.2.2.1
    clear hJ
    by_cases hlt : j < E.length
    · obtain ⟨g, rfl, hg, hc⟩ := OB.out (by omega)
      have hck := (bcell BW.out).1 g j hg
      rw [hc j hlt] at hck
      have h7 := HPc.out.e7 _ (mem_getD E j hlt)
      have HS := hid (insAll_take dotOf T [dotT me k] E j hlt)
      have hTx := HTT.out _ h7
      have hxl := insAll_len dotOf T (E.take j) [dotT me k]
      rw [List.length_take] at hxl
      generalize insAll dotOf T [dotT me k] (E.take j) = X at *
      clear hc
      generalize E.getD j [] = x at *
      unfold strV at hck
      have hxz := bs_size x
      by_cases hge : gone = []
      · subst hge
        have hTf : T x = false := by rw [hTx]; rfl
        clear hTx
        go_wp2
        go_roundw
        case rel => exact ⟨j + 1, by omega, by go_num, by rw [HS.out, hTf]; exact J.out⟩
        case measure => simp [intOf]; omega
      · have hge' : (gone == []) = false := by simpa using hge
        have hTy : T x = (x.take gone.length == gone) := by rw [hTx, hge']; rfl
        have hgz := bs_size gone
        have HX := hid (bs_extract x 0 gone.length)
        have hcm : (((ByteArray.mk x.toArray).extract 0 gone.length).toList == gone) = T x := by rw [hTy, bs_extract, bs_toList]; simp
        clear hTx hTy HX
        cases hTv : T x
        · rw [hTv] at hcm
          go_wp2
          go_roundw
          case rel => exact ⟨j + 1, by omega, by go_num, by rw [HS.out, hTv]; exact J.out⟩
          case measure => simp [intOf]; omega
        · rw [hTv] at hcm
          obtain ⟨o1, ho, l1⟩ := J.out.o
          obtain ⟨oo, oc, rfl, _⟩ := l1.op
          have e0 : wr.cell? ⟨w2.heap.size + 1, 0, none⟩ = some (.slice oo X.length oc) := blk_cell ho 0
          have L1 := hid l1
          have HD7 := hid (fun wx => dot_any x wx h7)
          have HWi := hid (fun wx hx => with_any X (dotOf x) (.slice oo X.length oc) 0 wx hx (by simp at hxl; omega))
          clear ho l1
          go_wp2_with fail
          go_region_with (first | (go_at_call 142; refine (HD7.out _).mono ?_; rintro e w3 ⟨rfl, rfl⟩) | (go_at_call 141; refine (HWi.out _ (L1.out.on (Blw.dr (Blw.rfl _)))).mono ?_; rintro e w4 ⟨v', rfl, h4, b4⟩; obtain ⟨vo, vc, rfl, _⟩ := h4.op; have J4 := hid (J.out.on (Blw.tr (Blw.dr (Blw.rfl _)) b4)); have e4 := (fun {o1} (ho : w4.heap[w2.heap.size + 1]? = some (.cells #[o1, .slice none 0 0] 120)) => And.intro (show w4.cell? ⟨w2.heap.size + 1, 0, none⟩ = some o1 from blk_cell ho 0) (blk_frozen ho 0)); obtain ⟨z1, hz1, _⟩ := J4.out.o; obtain ⟨e5, e6⟩ := e4 hz1; clear e4 hz1))
          all_goals
            go_wp2
            go_roundw
            case rel => exact ⟨j + 1, by omega, by go_num, by rw [HS.out, hTv]; exact J4.out.set _ (h4.weak (Nat.zero_le _))⟩
            case measure => simp [intOf]; omega
    · have hjn : j = E.length := by omega
      subst hjn
      rw [List.take_length] at J
      clear hlt hj
      obtain ⟨i0, hi, hz0, hz1, hz2⟩ := info_parts infoS
      have HLn := hid (fun (wx : World) (o1 o2 : Value) (hx : Blw w wx) (l1 : Ls wx 0 o1 (insAll dotOf T [dotT me k] E)) (l2 : Ls wx 0 o2 EE) => rlearn_any cb me n a (.slice bo E.length kb) o1 o2 had ln lt ac dk D E (insAll dotOf T [dotT me k] E) EE ls wx (hx.bq HH.out) (HPc.out.on hx) (HRq.out.pcAt HPP.out.2.ok l1 l2) (HLL.out.on hx) hln hh hdk (by rw [HRq.out.write HPP.out.2.ok]; have := text_len' q HPP.out.2.ok; omega) L q (HLat.out.on hx) HRq.out HPP.out.2 M HM7.out had' ln' dk' X' Y' HRest.out.1 HRest.out.2.1 (by rw [HRq.out.write HPP.out.2.ok]; exact HRest.out.2.2.1) HRest.out.2.2.2.1 HRest.out.2.2.2.2.1)
      have HRJ : Hid (RelP (p.join q) X' Y') := by
        show RelP _ _ _
        rw [HRest.out.2.2.2.1, HRest.out.2.2.2.2.1]; exact rel_join HR.out HRq.out HPP.out.1 HPP.out.2
      have HTo := hid (fun (wx : World) (u v' lt' : Value) (g1 : wx.heap[cb]? = some (.cells (refArr me n u v' had' lt' ac dk') 123)) (g2 : Ls wx 0 u X') (g3 : Ls wx 0 v' Y') => rtoken_any cb me n u v' had' lt' ac dk' X' Y' wx hn g1 (HRJ.out.pcAt (join_fine HPP.out.1 HPP.out.2).ok g2 g3))
      rw [HRJ.out.tok (join_fine HPP.out.1 HPP.out.2).ok n, ← HRest.out.2.2.2.2.2] at HTo
      by_cases hm0 : made = []
      · subst hm0
        have hEX : Hid (EE = []) := by show EE = []; rw [HEE.out]; rfl
        obtain ⟨o1, ho, l1⟩ := J.out.o
        obtain ⟨oo, oc, rfl, _⟩ := l1.op
        have e0 : wr.cell? ⟨w2.heap.size + 1, 0, none⟩ = some (.slice oo (insAll dotOf T [dotT me k] E).length oc) := blk_cell ho 0
        have e1 : wr.cell? ⟨w2.heap.size + 1, 1, none⟩ = some (.slice none 0 0) := blk_cell ho 1
        have L1 := hid l1
        have LN : Hid (Ls wr 0 (.slice none 0 0) EE) := by show Ls _ _ _ _; rw [hEX.out]; exact Ls.nil _ _
        clear ho l1
        go_wp2_with fail
        refine (HLn.out _ _ _ BW.out L1.out LN.out).mono ?_
        rintro e w7 ⟨rfl, r7⟩
        obtain ⟨u, v', lt', ls', i1, i2, i3, i4, i5⟩ := r7.at_
        have R7 := hid r7
        have HTk := hid (HTo.out w7 u v' lt' i1 i2 i3)
        clear r7 i1 i2 i3 i4 i5
        go_wp2_with fail
        refine HTk.out.mono ?_
        rintro e w8 ⟨rfl, b8⟩
        go_wp2
        go_ret2
        exact ⟨rfl, (R7.out.pre BW.out).post b8⟩
      · have hm2 : made.length = 2 := hml.resolve_left hm0
        have hm1 : (made == []) = false := by simpa using hm0
        by_cases hneg : v < 0
        · obtain ⟨d, rfl⟩ : ∃ d : Nat, v = -(d : Int) := ⟨v.natAbs, by omega⟩
          have hd : d < 100 := by omega
          have hd0 : 0 < d := by omega
          have HLV : Hid (lastD d 2 = [dig (d / 10), dig (d % 10)]) := by
            show lastD d 2 = _
            simp only [lastD, Nat.pow_zero, Nat.div_one, Nat.pow_one]; rw [Nat.mod_eq_of_lt (show d / 10 < 10 by omega)]
          obtain ⟨xx, hxx⟩ : ∃ xx, xx = made ++ dotT me k ++ [45] ++ lastD d 2 := ⟨_, rfl⟩
          have hxl : xx.length ≤ 7 := by rw [hxx]; simp [lastD_len, hm2, dotT]
          have HXV : Hid (xx = made ++ dotT me k ++ valL (-(d : Int))) := by
            show xx = _
            rw [hxx, HLV.out, valL, if_pos hneg]
            have : (-(d : Int)).natAbs = d := by omega
            rw [this, List.append_assoc]; rfl
          have hlv := lastD_len d 2
          have HD2 := hid (fun wx => digits_any d 2 wx (by omega) (by omega))
          generalize lastD d 2 = zv at *
          obtain ⟨z1, hz1⟩ : ∃ z1, z1 = made ++ dotT me k := ⟨_, rfl⟩
          obtain ⟨z2, hz2⟩ : ∃ z2, z2 = z1 ++ [45] := ⟨_, rfl⟩
          have t1 : ByteArray.mk made.toArray ++ ByteArray.mk (dotT me k).toArray = ByteArray.mk z1.toArray := by rw [hz1]; exact ByteArray.mk_append_mk _ _
          have t2 : ByteArray.mk z1.toArray ++ ByteArray.mk #[45] = ByteArray.mk z2.toArray := by rw [hz2]; exact ByteArray.mk_append_mk z1 [45]
          have t3 : ByteArray.mk z2.toArray ++ ByteArray.mk zv.toArray = ByteArray.mk xx.toArray := by rw [hxx, hz2, hz1] at *; exact ByteArray.mk_append_mk _ _
          have y1 : z1.length = 4 := by rw [hz1]; simp [hm2, dotT]
          have y2 : z2.length = 5 := by rw [hz2]; simp [y1]
          clear hxx hz1 hz2
          have hEX : Hid (EE = [xx]) := by
            show EE = [xx]
            rw [HEE.out, if_neg hm0, HXV.out]
          go_wp2_with fail
          refine (HD2.out _).mono ?_
          rintro e w5 ⟨rfl, b5⟩
          have J5 := hid (J.out.on b5)
          obtain ⟨o5, ho5, l5⟩ := J5.out.o
          obtain ⟨oo, oc, rfl, _⟩ := l5.op
          have L5 := hid l5
          have O5 := hid ho5
          have e1 : w5.cell? ⟨w2.heap.size + 1, 1, none⟩ = some (.slice none 0 0) := blk_cell ho5 1
          have BW5 := hid (BW.out.tr b5)
          clear ho5 l5 b5 c3
          go_wp2_with (first | (at_builtin; refine wpList_append_own _ rfl (.tmp 94) (.tmp 102) 34 rfl 0 9 i0 (.string ⟨#[]⟩) 1 16 Tryz.underlying34 hi hz0 hz1 hz2 rfl (by decide) _ _ _ rfl (World.ownsRow_nil _ _ _ _) ⟨w5.heap.size, 0, none⟩ 1 1 [strV xx] rfl rfl (one_cell_at _ _ _) (one_cell_one xx) (by unfold maxLen; omega) (by omega) (by simp) ?_))
          intro v5 w6 ho' hgr _
          have hl6 := Ls.snoc (L := []) ho'
          have B6 : Blw w5 w6 := by
            refine Blw.tr ((Blw.rfl w5).al _) ⟨hgr.os, hgr.tape, hgr.output, hgr.size, fun i hi => hgr.block i hi (by simp [Value.ownBlock])⟩
          obtain ⟨vo, vc, rfl, _⟩ := hl6.op
          have O6 := hid (B6.bq O5.out)
          have e6 : w6.cell? ⟨w2.heap.size + 1, 1, none⟩ = some (.slice none 0 0) := blk_cell O6.out 1
          have f6 := blk_frozen O6.out 1
          have M7 : Hid ((w6.setCell ⟨w2.heap.size + 1, 1, none⟩ (.slice vo 1 vc)).heap[w2.heap.size + 1]? = some (.cells #[.slice oo (insAll dotOf T [dotT me k] E).length oc, .slice vo 1 vc] 120)) := by
            show _ = _
            rw [heap_setCell_self O6.out]; rfl
          have g0 : (w6.setCell ⟨w2.heap.size + 1, 1, none⟩ (.slice vo 1 vc)).cell? ⟨w2.heap.size + 1, 0, none⟩ = some (.slice oo (insAll dotOf T [dotT me k] E).length oc) := blk_cell M7.out 0
          have g1 : (w6.setCell ⟨w2.heap.size + 1, 1, none⟩ (.slice vo 1 vc)).cell? ⟨w2.heap.size + 1, 1, none⟩ = some (.slice vo 1 vc) := blk_cell M7.out 1
          have WB : Hid (Blw w (w6.setCell ⟨w2.heap.size + 1, 1, none⟩ (.slice vo 1 vc))) := (BW5.out.tr B6).sc _ _ _ (by omega)
          have LA : Hid (Ls (w6.setCell ⟨w2.heap.size + 1, 1, none⟩ (.slice vo 1 vc)) 0 (.slice oo (insAll dotOf T [dotT me k] E).length oc) (insAll dotOf T [dotT me k] E)) := (L5.out.on B6).sc O6.out (by decide) _
          have LB : Hid (Ls (w6.setCell ⟨w2.heap.size + 1, 1, none⟩ (.slice vo 1 vc)) 0 (.slice vo 1 vc) EE) := by
            show Ls _ _ _ _
            rw [hEX.out]; exact hl6.sc O6.out (by decide) _
          clear hl6 ho' hgr B6 e1
          go_wp2_with fail
          refine (HLn.out _ _ _ WB.out LA.out LB.out).mono ?_
          rintro e w7 ⟨rfl, r7⟩
          obtain ⟨u, v', lt', ls', i1, i2, i3, i4, i5⟩ := r7.at_
          have R7 := hid r7
          have HTk := hid (HTo.out w7 u v' lt' i1 i2 i3)
          clear r7 i1 i2 i3 i4 i5
          go_wp2_with fail
          refine HTk.out.mono ?_
          rintro e w8 ⟨rfl, b8⟩
          go_wp2
          go_ret2
          exact ⟨rfl, (R7.out.pre WB.out).post b8⟩
        · obtain ⟨d, rfl⟩ : ∃ d : Nat, v = (d : Int) := ⟨v.natAbs, by omega⟩
          have hd : d < 100 := by omega
          have HLV : Hid (lastD d 2 = [dig (d / 10), dig (d % 10)]) := by
            show lastD d 2 = _
            simp only [lastD, Nat.pow_zero, Nat.div_one, Nat.pow_one]; rw [Nat.mod_eq_of_lt (show d / 10 < 10 by omega)]
          obtain ⟨xx, hxx⟩ : ∃ xx, xx = made ++ dotT me k ++ [43] ++ lastD d 2 := ⟨_, rfl⟩
          have hxl : xx.length ≤ 7 := by rw [hxx]; simp [lastD_len, hm2, dotT]
          have HXV : Hid (xx = made ++ dotT me k ++ valL (d : Int)) := by
            show xx = _
            rw [hxx, HLV.out, valL, if_neg hneg]
            have : ((d : Int)).natAbs = d := by omega
            rw [this, List.append_assoc]; rfl
          have hlv := lastD_len d 2
          have HD2 := hid (fun wx => digits_any d 2 wx (by omega) (by omega))
          generalize lastD d 2 = zv at *
          obtain ⟨z1, hz1⟩ : ∃ z1, z1 = made ++ dotT me k := ⟨_, rfl⟩
          obtain ⟨z2, hz2⟩ : ∃ z2, z2 = z1 ++ [43] := ⟨_, rfl⟩
          have t1 : ByteArray.mk made.toArray ++ ByteArray.mk (dotT me k).toArray = ByteArray.mk z1.toArray := by rw [hz1]; exact ByteArray.mk_append_mk _ _
          have t2 : ByteArray.mk z1.toArray ++ ByteArray.mk #[43] = ByteArray.mk z2.toArray := by rw [hz2]; exact ByteArray.mk_append_mk z1 [43]
          have t3 : ByteArray.mk z2.toArray ++ ByteArray.mk zv.toArray = ByteArray.mk xx.toArray := by rw [hxx, hz2, hz1] at *; exact ByteArray.mk_append_mk _ _
          have y1 : z1.length = 4 := by rw [hz1]; simp [hm2, dotT]
          have y2 : z2.length = 5 := by rw [hz2]; simp [y1]
          clear hxx hz1 hz2
          have hEX : Hid (EE = [xx]) := by
            show EE = [xx]
            rw [HEE.out, if_neg hm0, HXV.out]
          go_wp2_with fail
          refine (HD2.out _).mono ?_
          rintro e w5 ⟨rfl, b5⟩
          have J5 := hid (J.out.on b5)
          obtain ⟨o5, ho5, l5⟩ := J5.out.o
          obtain ⟨oo, oc, rfl, _⟩ := l5.op
          have L5 := hid l5
          have O5 := hid ho5
          have e1 : w5.cell? ⟨w2.heap.size + 1, 1, none⟩ = some (.slice none 0 0) := blk_cell ho5 1
          have BW5 := hid (BW.out.tr b5)
          clear ho5 l5 b5 c3
          go_wp2_with (first | (at_builtin; refine wpList_append_own _ rfl (.tmp 94) (.tmp 102) 34 rfl 0 9 i0 (.string ⟨#[]⟩) 1 16 Tryz.underlying34 hi hz0 hz1 hz2 rfl (by decide) _ _ _ rfl (World.ownsRow_nil _ _ _ _) ⟨w5.heap.size, 0, none⟩ 1 1 [strV xx] rfl rfl (one_cell_at _ _ _) (one_cell_one xx) (by unfold maxLen; omega) (by omega) (by simp) ?_))
          intro v5 w6 ho' hgr _
          have hl6 := Ls.snoc (L := []) ho'
          have B6 : Blw w5 w6 := by
            refine Blw.tr ((Blw.rfl w5).al _) ⟨hgr.os, hgr.tape, hgr.output, hgr.size, fun i hi => hgr.block i hi (by simp [Value.ownBlock])⟩
          obtain ⟨vo, vc, rfl, _⟩ := hl6.op
          have O6 := hid (B6.bq O5.out)
          have e6 : w6.cell? ⟨w2.heap.size + 1, 1, none⟩ = some (.slice none 0 0) := blk_cell O6.out 1
          have f6 := blk_frozen O6.out 1
          have M7 : Hid ((w6.setCell ⟨w2.heap.size + 1, 1, none⟩ (.slice vo 1 vc)).heap[w2.heap.size + 1]? = some (.cells #[.slice oo (insAll dotOf T [dotT me k] E).length oc, .slice vo 1 vc] 120)) := by
            show _ = _
            rw [heap_setCell_self O6.out]; rfl
          have g0 : (w6.setCell ⟨w2.heap.size + 1, 1, none⟩ (.slice vo 1 vc)).cell? ⟨w2.heap.size + 1, 0, none⟩ = some (.slice oo (insAll dotOf T [dotT me k] E).length oc) := blk_cell M7.out 0
          have g1 : (w6.setCell ⟨w2.heap.size + 1, 1, none⟩ (.slice vo 1 vc)).cell? ⟨w2.heap.size + 1, 1, none⟩ = some (.slice vo 1 vc) := blk_cell M7.out 1
          have WB : Hid (Blw w (w6.setCell ⟨w2.heap.size + 1, 1, none⟩ (.slice vo 1 vc))) := (BW5.out.tr B6).sc _ _ _ (by omega)
          have LA : Hid (Ls (w6.setCell ⟨w2.heap.size + 1, 1, none⟩ (.slice vo 1 vc)) 0 (.slice oo (insAll dotOf T [dotT me k] E).length oc) (insAll dotOf T [dotT me k] E)) := (L5.out.on B6).sc O6.out (by decide) _
          have LB : Hid (Ls (w6.setCell ⟨w2.heap.size + 1, 1, none⟩ (.slice vo 1 vc)) 0 (.slice vo 1 vc) EE) := by
            show Ls _ _ _ _
            rw [hEX.out]; exact hl6.sc O6.out (by decide) _
          clear hl6 ho' hgr B6 e1
          go_wp2_with fail
          refine (HLn.out _ _ _ WB.out LA.out LB.out).mono ?_
          rintro e w7 ⟨rfl, r7⟩
          obtain ⟨u, v', lt', ls', i1, i2, i3, i4, i5⟩ := r7.at_
          have R7 := hid r7
          have HTk := hid (HTo.out w7 u v' lt' i1 i2 i3)
          clear r7 i1 i2 i3 i4 i5
          go_wp2_with fail
          refine HTk.out.mono ?_
          rintro e w8 ⟨rfl, b8⟩
          go_wp2
          go_ret2
          exact ⟨rfl, (R7.out.pre WB.out).post b8⟩
end Go.Proofs.YtalaldfgjgpacaaGreatDoor
