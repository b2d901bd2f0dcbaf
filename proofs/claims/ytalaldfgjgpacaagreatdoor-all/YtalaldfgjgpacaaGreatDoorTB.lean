import Derived.Test.YtalaldfgjgpacaaGreatDoorTA
namespace Go.Proofs.YtalaldfgjgpacaaGreatDoor
set_option linter.unusedVariables false
set_option linter.unusedSimpArgs false
open Go.RowKit
attribute [local go_sem ↓] Go.wp_at_zero Go.wp_at_succ run_load63 run_store63
attribute [local go_sem] blkOf_mk offOf_mk isPt_mk isRow_pc Has_drew HasW_drew rowOf_drew HasW_new Has_alloc rowOf_alloc isRow_zero63

theorem results_2rows {P : Program} {fn : Func} {p q u : Tmp} {ty ty' : TypeId} (h : fn.results = #[.cell p ty, .cell q ty', .tmp u]) (tmps : Array Value) (w : World) (g g' : Nat) (t t' : TypeId) (cs cs' : Array Value) (fr fr' : Nat × Nat) (d d' : TypeDesc)
    (hp : tmps.getD p undef = .pointer (some ⟨g, 0, none⟩)) (hg : w.heap[g]? = some (.cells cs t fr)) (hu : P.underlying ty = some d) (hd : (match d with | .struct _ | .array _ _ => true | _ => false) = true) (hi : (P.info? ty).map (·.size) = some cs.size)
    (hp' : tmps.getD q undef = .pointer (some ⟨g', 0, none⟩)) (hg' : w.heap[g']? = some (.cells cs' t' fr')) (hu' : P.underlying ty' = some d') (hd' : (match d' with | .struct _ | .array _ _ => true | _ => false) = true) (hi' : (P.info? ty').map (·.size) = some cs'.size) :
    (results fn tmps).run P w = .ok (.tuple #[.agg cs, .agg cs', tmps.getD u undef]) w := by
  have h1 := run_loadVar_row w g t ty cs fr d hg hu hd hi
  have h2 := run_loadVar_row w g' t' ty' cs' fr' d' hg' hu' hd' hi'
  have a1 : (asAddr (tmps.getD p undef)).run P w = .ok ⟨g, 0, none⟩ w := by rw [hp]; rfl
  have a2 : (asAddr (tmps.getD q undef)).run P w = .ok ⟨g', 0, none⟩ w := by rw [hp']; rfl
  simp only [results, h]
  simp only [Array.mapM_eq_mapM_toList, List.mapM_cons, List.mapM_nil, Sem.run_bind, Sem.run_pure, Result.andThen_ok, a1, a2, h1, h2, map_eq_pure_bind, bind_assoc, pure_bind]
  simp [Sem.run_bind, Result.andThen, a1, a2, h1, h2]

/-- Four cells written. -/
def set4 (w : World) (A : Nat) (v0 v1 v2 v3 : Value) : World := (((w.setCell ⟨A, 0, none⟩ v0).setCell ⟨A, 1, none⟩ v1).setCell ⟨A, 2, none⟩ v2).setCell ⟨A, 3, none⟩ v3
theorem set4_self {w : World} {A : Nat} {x0 x1 x2 x3 : Value} {t : TypeId} (h : w.heap[A]? = some (.cells #[x0, x1, x2, x3] t)) (v0 v1 v2 v3 : Value) : (set4 w A v0 v1 v2 v3).heap[A]? = some (.cells #[v0, v1, v2, v3] t) := by
  unfold set4
  rw [heap_setCell_self (heap_setCell_self (heap_setCell_self (heap_setCell_self h v0) v1) v2) v3]; rfl
theorem set4_ne {w : World} {A b : Nat} {o : Obj} (h : w.heap[b]? = some o) (hne : b ≠ A) (v0 v1 v2 v3 : Value) : (set4 w A v0 v1 v2 v3).heap[b]? = some o := by
  unfold set4
  rw [Below.heap_setCell _ ⟨A, 3, none⟩ v3 b hne, Below.heap_setCell _ ⟨A, 2, none⟩ v2 b hne, Below.heap_setCell _ ⟨A, 1, none⟩ v1 b hne, Below.heap_setCell _ ⟨A, 0, none⟩ v0 b hne]; exact h
theorem set4_blw {w w0 : World} {A : Nat} (h : Blw w w0) (hA : w.heap.size ≤ A) (v0 v1 v2 v3 : Value) : Blw w (set4 w0 A v0 v1 v2 v3) := (((h.sc _ _ _ hA).sc _ _ _ hA).sc _ _ _ hA).sc _ _ _ hA

/-- The two boxes of an answer. -/
structure MB (w wr : World) : Prop where
  a : ∃ x0 x1 x2 x3, wr.heap[w.heap.size]? = some (.cells #[x0, x1, x2, x3] 71)
  z : wr.heap[w.heap.size + 1]? = some (.cells Tryz.zeroCells65 65)
  bl : Blw w wr
theorem MB.on {w wr w' : World} (h : MB w wr) (hb : Blw wr w') : MB w w' := by
  obtain ⟨x0, x1, x2, x3, ha⟩ := h.a
  exact ⟨⟨x0, x1, x2, x3, hb.bk' ha⟩, hb.bk' h.z, h.bl.tr hb⟩

/-- Behind a refusal. -/
structure MF (w wr : World) : Prop where
  a : (putRowAt (set4 wr w.heap.size (.string ⟨#[]⟩) (.int .i64 0) (.int .i64 0) (.int .i64 0)) (w.heap.size + 1) 0 (.agg Tryz.zeroCells65)).heap[w.heap.size]? = some (.cells (headArr [] 0 0 0) 71)
  z : (putRowAt (set4 wr w.heap.size (.string ⟨#[]⟩) (.int .i64 0) (.int .i64 0) (.int .i64 0)) (w.heap.size + 1) 0 (.agg Tryz.zeroCells65)).heap[w.heap.size + 1]? = some (.cells Tryz.zeroCells65 65)
  bl : Blw w (putRowAt (set4 wr w.heap.size (.string ⟨#[]⟩) (.int .i64 0) (.int .i64 0) (.int .i64 0)) (w.heap.size + 1) 0 (.agg Tryz.zeroCells65))
theorem MB.fail {w wr : World} (h : MB w wr) : MF w wr ∧ HasW (set4 wr w.heap.size (.string ⟨#[]⟩) (.int .i64 0) (.int .i64 0) (.int .i64 0)) (w.heap.size + 1) 0 := by
  obtain ⟨x0, x1, x2, x3, ha⟩ := h.a
  have h1 := set4_self ha (.string ⟨#[]⟩) (.int .i64 0) (.int .i64 0) (.int .i64 0)
  have h2 := set4_ne (A := w.heap.size) h.z (by omega) (.string ⟨#[]⟩) (.int .i64 0) (.int .i64 0) (.int .i64 0)
  have h3 := set4_blw h.bl (Nat.le_refl w.heap.size) (.string ⟨#[]⟩) (.int .i64 0) (.int .i64 0) (.int .i64 0)
  refine ⟨⟨?_, ?_, put_blw h3 _ _ (by omega)⟩, HasW_of h2 zle63⟩
  · rw [put_ne (by omega)]; exact h1
  · rw [zero63] at h2 ⊢; exact put_pc h2 (Pc.size _)

theorem size69 : (Tryz.prog.info? 71).map (·.size) = some 4 := by kernel_rfl

set_option maxRecDepth 100000 in
set_option maxHeartbeats 4000000 in
theorem readMsg_short (s : ByteArray) (w : World) (hs : s.size ≤ maxLen) (h : s.size < 5 ∨ 300 < s.size) :
    Calls Tryz.prog 29 #[.string s] w fun e w' => e = .returned (.tuple #[.agg (headArr [] 0 0 0), .agg Pc.empty.arr, .bool false]) ∧ Blw w w' := by
  unfold maxLen at hs
  obtain ⟨w0, hw0⟩ : ∃ w0, w0 = (w.alloc (.cells #[.string ⟨#[]⟩, .int .i64 0, .int .i64 0, .int .i64 0] 71)).alloc (.cells Tryz.zeroCells65 65) := ⟨_, rfl⟩
  have M0 : Hid (MB w w0) := ⟨⟨_, _, _, _, by rw [hw0]; exact hp_old _ (by simp) (hp_new _ _)⟩, by rw [hw0]; exact hp_new2 w _ _, by rw [hw0]; exact ((Blw.rfl _).al _).al _⟩
  have HIZ : Hid ((Tryz.prog.info? 65).map (·.size) = some Tryz.zeroCells65.size) := by show _ = _; rw [size63, zsize63]
  rw [show Pc.empty.arr = Tryz.zeroCells65 from zero63.symm]
  obtain ⟨x0, x1, x2, x3, ha⟩ := M0.out.a
  have hw := M0.out.fail.2
  have MFx := hid M0.out.fail.1
  unfold set4 at hw
  have a0 := blk_cell ha 0
  have a1 := blk_cell ha 1
  have a2 := blk_cell ha 2
  have a3 := blk_cell ha 3
  have f0 := blk_frozen ha 0
  have f1 := blk_frozen ha 1
  have f2 := blk_frozen ha 2
  have f3 := blk_frozen ha 3
  clear ha
  rcases h with h | h
  · go_enter Tryz.func29, Tryz.ntmps29
    go_upto_region 1 with fail
    rw [← hw0]
    clear hw0
    go_wp2_with fail
    have m1 := MFx.out.a
    have m2 := MFx.out.z
    have m3 := MFx.out.bl
    have HI := HIZ.out
    unfold set4 at m1 m2 m3
    
    clear hw MFx a0 a1 a2 a3 f0 f1 f2 f3
    generalize putRowAt ((((w0.setCell ⟨w.heap.size, 0, none⟩ (.string ⟨#[]⟩)).setCell ⟨w.heap.size, 1, none⟩ (.int .i64 0)).setCell ⟨w.heap.size, 2, none⟩ (.int .i64 0)).setCell ⟨w.heap.size, 3, none⟩ (.int .i64 0)) (w.heap.size + 1) 0 (.agg Tryz.zeroCells65) = wz at *
    generalize Tryz.zeroCells65 = Z at *
    exact bodyPost_ret (results_2rows rfl _ _ w.heap.size (w.heap.size + 1) 71 65 (headArr [] 0 0 0) Z (0, 0) (0, 0) _ _ (by rfl) m1 Tryz.underlying71 rfl size69 (by rfl) m2 Tryz.underlying65 rfl HI) rfl ⟨rfl, m3⟩
  · have h5 : ¬ s.size < 5 := by omega
    go_enter Tryz.func29, Tryz.ntmps29
    go_upto_region 1 with fail
    rw [← hw0]
    clear hw0
    go_wp2_with fail
    have m1 := MFx.out.a
    have m2 := MFx.out.z
    have m3 := MFx.out.bl
    have HI := HIZ.out
    unfold set4 at m1 m2 m3
    
    clear hw MFx a0 a1 a2 a3 f0 f1 f2 f3
    generalize putRowAt ((((w0.setCell ⟨w.heap.size, 0, none⟩ (.string ⟨#[]⟩)).setCell ⟨w.heap.size, 1, none⟩ (.int .i64 0)).setCell ⟨w.heap.size, 2, none⟩ (.int .i64 0)).setCell ⟨w.heap.size, 3, none⟩ (.int .i64 0)) (w.heap.size + 1) 0 (.agg Tryz.zeroCells65) = wz at *
    generalize Tryz.zeroCells65 = Z at *
    exact bodyPost_ret (results_2rows rfl _ _ w.heap.size (w.heap.size + 1) 71 65 (headArr [] 0 0 0) Z (0, 0) (0, 0) _ _ (by rfl) m1 Tryz.underlying71 rfl size69 (by rfl) m2 Tryz.underlying65 rfl HI) rfl ⟨rfl, m3⟩

set_option maxRecDepth 100000 in
set_option maxHeartbeats 8000000 in
theorem readMsg_any (c0 c1 c2 c3 c4 : UInt8) (t : Bs) (ok : Bool) (hd : Array Value) (q : Pc) (w : World) (hl : t.length ≤ 295) (hok : ok = (hdOk c1 c2 c3 c4 && ((([c0] == [(73 : UInt8)]) || ([c0] == [(70 : UInt8)])) && readOk t)))
    (hy1 : ok = true → hd = headArr [c0] (c1.toNat - 48) (c2.toNat - 48) ((c3.toNat - 48) * 10 + (c4.toNat - 48)) ∧ q = readP t) (hn1 : ok = false → hd = headArr [] 0 0 0 ∧ q = Pc.empty) :
    Calls Tryz.prog 29 #[.string ⟨(c0 :: c1 :: c2 :: c3 :: c4 :: t).toArray⟩] w fun e w' => e = .returned (.tuple #[.agg hd, .agg q.arr, .bool ok]) ∧ Blw w w' := by
  obtain ⟨y, hy⟩ : ∃ y : ByteArray, y = ⟨(c0 :: c1 :: c2 :: c3 :: c4 :: t).toArray⟩ := ⟨_, rfl⟩
  have hys : y.size = t.length + 5 := by rw [hy, bs_size]; rfl
  have HX0 : Hid (y.extract 0 5 = ⟨#[c0, c1, c2, c3, c4]⟩) := by rw [hy]; exact bs_extract (c0 :: c1 :: c2 :: c3 :: c4 :: t) 0 5
  have HX5 : Hid (y.extract 5 y.size = ⟨t.toArray⟩) := by
    show _ = _
    rw [hys, hy]; exact (bs_extract (c0 :: c1 :: c2 :: c3 :: c4 :: t) 5 _).trans (by simp)
  have h5 : ¬ y.size < 5 := by omega
  have h300 : ¬ 300 < y.size := by omega
  have h5' : 5 ≤ y.size := by omega
  have HYS := hid hys
  rw [← hy]
  obtain ⟨w0, hw0⟩ : ∃ w0, w0 = (w.alloc (.cells #[.string ⟨#[]⟩, .int .i64 0, .int .i64 0, .int .i64 0] 71)).alloc (.cells Tryz.zeroCells65 65) := ⟨_, rfl⟩
  have M0 : Hid (MB w w0) := ⟨⟨_, _, _, _, by rw [hw0]; exact hp_old _ (by simp) (hp_new _ _)⟩, by rw [hw0]; exact hp_new2 w _ _, by rw [hw0]; exact ((Blw.rfl _).al _).al _⟩
  have HIZ : Hid ((Tryz.prog.info? 65).map (·.size) = some Tryz.zeroCells65.size) := by show _ = _; rw [size63, zsize63]
  have HR := hid (fun wx => pread_any t wx (by omega))
  have HOK := hid hok
  have HY1 := hid hy1
  have HN1 := hid (fun h => hn1 h)
  have NO : Hid (ok = false → (Value.agg hd = .agg (headArr [] 0 0 0) ∧ Value.agg q.arr = .agg Tryz.zeroCells65)) := by
    intro h
    obtain ⟨e1, e2⟩ := hn1 h
    exact ⟨by rw [e1], by rw [e2, zero63]⟩
  clear hy hys hok hy1 hn1 hl HN1
  obtain ⟨fr, hfr⟩ : ∃ fr, fr = c1.toNat - 48 := ⟨_, rfl⟩
  obtain ⟨tt, htt⟩ : ∃ tt, tt = c2.toNat - 48 := ⟨_, rfl⟩
  obtain ⟨cn, hcn⟩ : ∃ cn, cn = (c3.toNat - 48) * 10 + (c4.toNat - 48) := ⟨_, rfl⟩
  rw [← hfr, ← htt, ← hcn] at HY1
  cases hh : hdOk c1 c2 c3 c4
  · have E : Hid (ok = false) := by show _ = _; rw [HOK.out, hh]; rfl
    have HH : Hid (∀ wx, Calls Tryz.prog 70 #[.string ⟨#[c0, c1, c2, c3, c4]⟩] wx fun e w' => e = .returned (.tuple #[.agg #[.string ⟨#[]⟩, .int .i64 0, .int .i64 0, .int .i64 0], .bool false]) ∧ Blw wx w') := fun wx => readHead_any c0 c1 c2 c3 c4 false _ wx hh.symm rfl
    clear HY1 HOK
    go_enter Tryz.func29, Tryz.ntmps29
    go_upto_region 1 with fail
    rw [← hw0]
    clear hw0
    go_wp2_with fail
    rw [HX0.out]
    refine (HH.out _).mono ?_
    rintro e w1 ⟨rfl, b1⟩
    have M1 := hid (M0.out.on b1)
    clear b1
    go_upto_region 4 with fail
    have M2 := hid (M1.out.on ((Blw.rfl w1).al (.cells #[.string ⟨#[]⟩, .int .i64 0, .int .i64 0, .int .i64 0] 71)))
    generalize w1.alloc (.cells #[.string ⟨#[]⟩, .int .i64 0, .int .i64 0, .int .i64 0] 71) = w2 at *
    obtain ⟨x0, x1, x2, x3, ha⟩ := M2.out.a
    have hw := M2.out.fail.2
    have MFx := hid M2.out.fail.1
    unfold set4 at hw
    have a0 := blk_cell ha 0
    have a1 := blk_cell ha 1
    have a2 := blk_cell ha 2
    have a3 := blk_cell ha 3
    have f0 := blk_frozen ha 0
    have f1 := blk_frozen ha 1
    have f2 := blk_frozen ha 2
    have f3 := blk_frozen ha 3
    clear ha
    go_wp2_with fail
    have m1 := MFx.out.a
    have m2 := MFx.out.z
    have m3 := MFx.out.bl
    have HI := HIZ.out
    unfold set4 at m1 m2 m3
    
    clear hw MFx a0 a1 a2 a3 f0 f1 f2 f3
    generalize putRowAt ((((w2.setCell ⟨w.heap.size, 0, none⟩ (.string ⟨#[]⟩)).setCell ⟨w.heap.size, 1, none⟩ (.int .i64 0)).setCell ⟨w.heap.size, 2, none⟩ (.int .i64 0)).setCell ⟨w.heap.size, 3, none⟩ (.int .i64 0)) (w.heap.size + 1) 0 (.agg Tryz.zeroCells65) = wz at *
    generalize Tryz.zeroCells65 = Z at *
    exact bodyPost_ret (results_2rows rfl _ _ w.heap.size (w.heap.size + 1) 71 65 (headArr [] 0 0 0) Z (0, 0) (0, 0) _ _ (by rfl) m1 Tryz.underlying71 rfl size69 (by rfl) m2 Tryz.underlying65 rfl HI) rfl ⟨by rw [(NO.out E.out).1, (NO.out E.out).2, E.out]; rfl, m3⟩
  · have HH : Hid (∀ wx, Calls Tryz.prog 70 #[.string ⟨#[c0, c1, c2, c3, c4]⟩] wx fun e w' => e = .returned (.tuple #[.agg #[.string ⟨#[c0]⟩, .int .i64 fr, .int .i64 tt, .int .i64 cn], .bool true]) ∧ Blw wx w') := fun wx => readHead_any c0 c1 c2 c3 c4 true _ wx hh.symm (by rw [hfr, htt, hcn]; rfl)
    clear hfr htt hcn
    have OKE : Hid (ok = ((([c0] == [(73 : UInt8)]) || ([c0] == [(70 : UInt8)])) && readOk t)) := by show _ = _; rw [HOK.out, hh]; rfl
    clear HOK hh
    go_enter Tryz.func29, Tryz.ntmps29
    go_upto_region 1 with fail
    rw [← hw0]
    clear hw0
    go_wp2_with fail
    rw [HX0.out]
    refine (HH.out _).mono ?_
    rintro e w1 ⟨rfl, b1⟩
    have M1 := hid (M0.out.on b1)
    clear b1
    go_upto_region 4 with fail
    have M2 := hid (M1.out.on ((Blw.rfl w1).al (.cells #[.string ⟨#[c0]⟩, .int .i64 fr, .int .i64 tt, .int .i64 cn] 71)))
    have K2 := hid (hp_new w1 (.cells #[.string ⟨#[c0]⟩, .int .i64 fr, .int .i64 tt, .int .i64 cn] 71))
    have hlt : w.heap.size + 1 < w1.heap.size := lt_of_blk M1.out.z
    generalize w1.alloc (.cells #[.string ⟨#[c0]⟩, .int .i64 fr, .int .i64 tt, .int .i64 cn] 71) = w2 at *
    generalize w1.heap.size = hb at *
    have k0 := blk_cell K2.out 0
    clear M1 M0
    cases hx1 : ([c0] == [(73 : UInt8)])
    · cases hx2 : ([c0] == [(70 : UInt8)])
      · have E : Hid (ok = false) := by show _ = _; rw [OKE.out, hx1, hx2]; rfl
        clear HY1 OKE HR
        obtain ⟨x0, x1, x2, x3, ha⟩ := M2.out.a
        have hw := M2.out.fail.2
        have MFx := hid M2.out.fail.1
        unfold set4 at hw
        have a0 := blk_cell ha 0
        have a1 := blk_cell ha 1
        have a2 := blk_cell ha 2
        have a3 := blk_cell ha 3
        have f0 := blk_frozen ha 0
        have f1 := blk_frozen ha 1
        have f2 := blk_frozen ha 2
        have f3 := blk_frozen ha 3
        clear ha
        go_wp2_with fail
        have m1 := MFx.out.a
        have m2 := MFx.out.z
        have m3 := MFx.out.bl
        have HI := HIZ.out
        unfold set4 at m1 m2 m3
        
        clear hw MFx a0 a1 a2 a3 f0 f1 f2 f3
        generalize putRowAt ((((w2.setCell ⟨w.heap.size, 0, none⟩ (.string ⟨#[]⟩)).setCell ⟨w.heap.size, 1, none⟩ (.int .i64 0)).setCell ⟨w.heap.size, 2, none⟩ (.int .i64 0)).setCell ⟨w.heap.size, 3, none⟩ (.int .i64 0)) (w.heap.size + 1) 0 (.agg Tryz.zeroCells65) = wz at *
        generalize Tryz.zeroCells65 = Z at *
        exact bodyPost_ret (results_2rows rfl _ _ w.heap.size (w.heap.size + 1) 71 65 (headArr [] 0 0 0) Z (0, 0) (0, 0) _ _ (by rfl) m1 Tryz.underlying71 rfl size69 (by rfl) m2 Tryz.underlying65 rfl HI) rfl ⟨by rw [(NO.out E.out).1, (NO.out E.out).2, E.out]; rfl, m3⟩
      · have hx3 : ([c0] != [(73 : UInt8)]) = true := by rw [bne, hx1]; rfl
        have hx4 : ([c0] != [(70 : UInt8)]) = false := by rw [bne, hx2]; rfl
        have hx : (([c0] == [(73 : UInt8)]) || ([c0] == [(70 : UInt8)])) = true := by rw [hx1, hx2]; rfl
        go_wp2_with fail
        rw [HX5.out]
        refine (HR.out _).mono ?_
        rintro e w3 ⟨rfl, b3⟩
        have M3 := hid (M2.out.on b3)
        have K3 := hid (b3.bk' K2.out)
        have hlt3 := Nat.lt_of_lt_of_le hlt (Nat.le_of_lt (lt_of_blk K3.out))
        clear b3 k0
        go_upto_region 9 with fail
        have bz : Hid (Blw w3 (putRowAt (w3.alloc (.cells Tryz.zeroCells65 65)) w3.heap.size 0 (.agg (readP t).arr))) := put_blw ((Blw.rfl w3).al _) _ _ (Nat.le_refl _)
        have Q4 : Hid ((putRowAt (w3.alloc (.cells Tryz.zeroCells65 65)) w3.heap.size 0 (.agg (readP t).arr)).heap[w3.heap.size]? = some (.cells (readP t).arr 65)) := put_new
        have M4 := hid (M3.out.on bz.out)
        have K4 := hid (bz.out.bk' K3.out)
        have hlt4 := lt_of_blk K3.out
        generalize putRowAt (w3.alloc (.cells Tryz.zeroCells65 65)) w3.heap.size 0 (.agg (readP t).arr) = w4 at *
        generalize w3.heap.size = qb at *
        clear bz M3 K3
        cases hro : readOk t
        · have E : Hid (ok = false) := by show _ = _; rw [OKE.out, hro]; simp
          clear HY1 OKE HR
          obtain ⟨x0, x1, x2, x3, ha⟩ := M4.out.a
          have hw := M4.out.fail.2
          have MFx := hid M4.out.fail.1
          unfold set4 at hw
          have a0 := blk_cell ha 0
          have a1 := blk_cell ha 1
          have a2 := blk_cell ha 2
          have a3 := blk_cell ha 3
          have f0 := blk_frozen ha 0
          have f1 := blk_frozen ha 1
          have f2 := blk_frozen ha 2
          have f3 := blk_frozen ha 3
          clear ha
          go_wp2_with fail
          have m1 := MFx.out.a
          have m2 := MFx.out.z
          have m3 := MFx.out.bl
          have HI := HIZ.out
          unfold set4 at m1 m2 m3
          
          clear hw MFx a0 a1 a2 a3 f0 f1 f2 f3
          generalize putRowAt ((((w4.setCell ⟨w.heap.size, 0, none⟩ (.string ⟨#[]⟩)).setCell ⟨w.heap.size, 1, none⟩ (.int .i64 0)).setCell ⟨w.heap.size, 2, none⟩ (.int .i64 0)).setCell ⟨w.heap.size, 3, none⟩ (.int .i64 0)) (w.heap.size + 1) 0 (.agg Tryz.zeroCells65) = wz at *
          generalize Tryz.zeroCells65 = Z at *
          exact bodyPost_ret (results_2rows rfl _ _ w.heap.size (w.heap.size + 1) 71 65 (headArr [] 0 0 0) Z (0, 0) (0, 0) _ _ (by rfl) m1 Tryz.underlying71 rfl size69 (by rfl) m2 Tryz.underlying65 rfl HI) rfl ⟨by rw [(NO.out E.out).1, (NO.out E.out).2, E.out]; rfl, m3⟩
        · have E : Hid (ok = true) := by show _ = _; rw [OKE.out, hro, hx]; rfl
          have EY := hid (HY1.out E.out)
          obtain ⟨x0, x1, x2, x3, ha⟩ := M4.out.a
          have hz := M4.out.z
          have a0 := blk_cell ha 0
          have a1 := blk_cell ha 1
          have a2 := blk_cell ha 2
          have a3 := blk_cell ha 3
          have f0 := blk_frozen ha 0
          have f1 := blk_frozen ha 1
          have f2 := blk_frozen ha 2
          have f3 := blk_frozen ha 3
          have k0 := blk_cell K4.out 0
          have k1 := blk_cell K4.out 1
          have k2 := blk_cell K4.out 2
          have k3 := blk_cell K4.out 3
          have hrow := rowOf_pc Q4.out
          have hhas := Has_pc Q4.out
          have hw1 : HasW w4 (w.heap.size + 1) 0 := HasW_of hz zle63
          have hw2 : HasW (set4 w4 w.heap.size (.string ⟨#[c0]⟩) (.int .i64 fr) (.int .i64 tt) (.int .i64 cn)) (w.heap.size + 1) 0 := HasW_of (set4_ne (A := w.heap.size) hz (by omega) _ _ _ _) zle63
          unfold set4 at hw2
          have hap : (putRowAt w4 (w.heap.size + 1) 0 (.agg (readP t).arr)).heap[w.heap.size]? = some (.cells #[x0, x1, x2, x3] 71) := (put_ne (by omega)).trans ha
          have b0 := blk_cell hap 0
          have b1 := blk_cell hap 1
          have b2 := blk_cell hap 2
          have b3 := blk_cell hap 3
          have e0 := blk_frozen hap 0
          have e1 := blk_frozen hap 1
          have e2 := blk_frozen hap 2
          have e3 := blk_frozen hap 3
          have q2 : (set4 w4 w.heap.size (.string ⟨#[c0]⟩) (.int .i64 fr) (.int .i64 tt) (.int .i64 cn)).heap[qb]? = some (.cells (readP t).arr 65) := set4_ne (A := w.heap.size) Q4.out (by omega) _ _ _ _
          unfold set4 at q2
          have hrow2 := rowOf_pc q2
          have hhas2 := Has_pc q2
          have hkp : (putRowAt w4 (w.heap.size + 1) 0 (.agg (readP t).arr)).heap[hb]? = some (.cells #[.string ⟨#[c0]⟩, .int .i64 fr, .int .i64 tt, .int .i64 cn] 71) := (put_ne (by omega)).trans K4.out
          have g0 := blk_cell hkp 0
          have g1 := blk_cell hkp 1
          have g2 := blk_cell hkp 2
          have g3 := blk_cell hkp 3
          generalize readP t = qq at *
          have HAA := hid ha
          have HZZ := hid hz
          have BL4 := hid M4.out.bl
          clear hap ha hz hkp q2 M2 M4 K2 HX0 HX5 HR h5 h300 h5' OKE NO HY1
          go_upto_region 11 with fail
          clear hlt hlt3 hlt4 hro hx hx1 hx3 hx2 hx4 K4 Q4 HYS
          go_region
          have n1 := set4_self HAA.out (.string ⟨#[c0]⟩) (.int .i64 fr) (.int .i64 tt) (.int .i64 cn)
          have n2 := set4_ne (A := w.heap.size) HZZ.out (by omega) (.string ⟨#[c0]⟩) (.int .i64 fr) (.int .i64 tt) (.int .i64 cn)
          have n3 := (set4_blw BL4.out (Nat.le_refl w.heap.size) (.string ⟨#[c0]⟩) (.int .i64 fr) (.int .i64 tt) (.int .i64 cn)).dr
          unfold set4 at n1 n2 n3
          have m1 : (putRowAt ((((w4.setCell ⟨w.heap.size, 0, none⟩ (.string ⟨#[c0]⟩)).setCell ⟨w.heap.size, 1, none⟩ (.int .i64 fr)).setCell ⟨w.heap.size, 2, none⟩ (.int .i64 tt)).setCell ⟨w.heap.size, 3, none⟩ (.int .i64 cn)).drew (w.heap.size + 1) 0 (.agg qq.arr)).heap[w.heap.size]? = some (.cells (headArr [c0] fr tt cn) 71) := (put_ne (by omega)).trans n1
          have m2 : (putRowAt ((((w4.setCell ⟨w.heap.size, 0, none⟩ (.string ⟨#[c0]⟩)).setCell ⟨w.heap.size, 1, none⟩ (.int .i64 fr)).setCell ⟨w.heap.size, 2, none⟩ (.int .i64 tt)).setCell ⟨w.heap.size, 3, none⟩ (.int .i64 cn)).drew (w.heap.size + 1) 0 (.agg qq.arr)).heap[w.heap.size + 1]? = some (.cells qq.arr 65) := put_pc (show (World.drew _).heap[w.heap.size + 1]? = _ from n2) zsize63
          have m3 : Blw w (putRowAt ((((w4.setCell ⟨w.heap.size, 0, none⟩ (.string ⟨#[c0]⟩)).setCell ⟨w.heap.size, 1, none⟩ (.int .i64 fr)).setCell ⟨w.heap.size, 2, none⟩ (.int .i64 tt)).setCell ⟨w.heap.size, 3, none⟩ (.int .i64 cn)).drew (w.heap.size + 1) 0 (.agg qq.arr)) := put_blw n3 _ _ (by omega)
          have HIQ : (Tryz.prog.info? 65).map (·.size) = some qq.arr.size := by rw [size63, Pc.size]
          clear n1 n2 n3 hrow hhas hrow2 hhas2 hw1 hw2 a0 a1 a2 a3 f0 f1 f2 f3 k0 k1 k2 k3 b0 b1 b2 b3 e0 e1 e2 e3 g0 g1 g2 g3
          generalize putRowAt ((((w4.setCell ⟨w.heap.size, 0, none⟩ (.string ⟨#[c0]⟩)).setCell ⟨w.heap.size, 1, none⟩ (.int .i64 fr)).setCell ⟨w.heap.size, 2, none⟩ (.int .i64 tt)).setCell ⟨w.heap.size, 3, none⟩ (.int .i64 cn)).drew (w.heap.size + 1) 0 (.agg qq.arr) = wz at *
          go_wp2_with fail
          exact bodyPost_ret (results_2rows rfl _ _ w.heap.size (w.heap.size + 1) 71 65 (headArr [c0] fr tt cn) qq.arr (0, 0) (0, 0) _ _ (by rfl) m1 Tryz.underlying71 rfl size69 (by rfl) m2 Tryz.underlying65 rfl HIQ) rfl ⟨by rw [EY.out.1, EY.out.2, E.out]; rfl, m3⟩
    · have hx3 : ([c0] != [(73 : UInt8)]) = false := by rw [bne, hx1]; rfl
      have hx : (([c0] == [(73 : UInt8)]) || ([c0] == [(70 : UInt8)])) = true := by rw [hx1]; rfl
      go_wp2_with fail
      rw [HX5.out]
      refine (HR.out _).mono ?_
      rintro e w3 ⟨rfl, b3⟩
      have M3 := hid (M2.out.on b3)
      have K3 := hid (b3.bk' K2.out)
      have hlt3 := Nat.lt_of_lt_of_le hlt (Nat.le_of_lt (lt_of_blk K3.out))
      clear b3 k0
      go_upto_region 9 with fail
      have bz : Hid (Blw w3 (putRowAt (w3.alloc (.cells Tryz.zeroCells65 65)) w3.heap.size 0 (.agg (readP t).arr))) := put_blw ((Blw.rfl w3).al _) _ _ (Nat.le_refl _)
      have Q4 : Hid ((putRowAt (w3.alloc (.cells Tryz.zeroCells65 65)) w3.heap.size 0 (.agg (readP t).arr)).heap[w3.heap.size]? = some (.cells (readP t).arr 65)) := put_new
      have M4 := hid (M3.out.on bz.out)
      have K4 := hid (bz.out.bk' K3.out)
      have hlt4 := lt_of_blk K3.out
      generalize putRowAt (w3.alloc (.cells Tryz.zeroCells65 65)) w3.heap.size 0 (.agg (readP t).arr) = w4 at *
      generalize w3.heap.size = qb at *
      clear bz M3 K3
      cases hro : readOk t
      · have E : Hid (ok = false) := by show _ = _; rw [OKE.out, hro]; simp
        clear HY1 OKE HR
        obtain ⟨x0, x1, x2, x3, ha⟩ := M4.out.a
        have hw := M4.out.fail.2
        have MFx := hid M4.out.fail.1
        unfold set4 at hw
        have a0 := blk_cell ha 0
        have a1 := blk_cell ha 1
        have a2 := blk_cell ha 2
        have a3 := blk_cell ha 3
        have f0 := blk_frozen ha 0
        have f1 := blk_frozen ha 1
        have f2 := blk_frozen ha 2
        have f3 := blk_frozen ha 3
        clear ha
        go_wp2_with fail
        have m1 := MFx.out.a
        have m2 := MFx.out.z
        have m3 := MFx.out.bl
        have HI := HIZ.out
        unfold set4 at m1 m2 m3
        
        clear hw MFx a0 a1 a2 a3 f0 f1 f2 f3
        generalize putRowAt ((((w4.setCell ⟨w.heap.size, 0, none⟩ (.string ⟨#[]⟩)).setCell ⟨w.heap.size, 1, none⟩ (.int .i64 0)).setCell ⟨w.heap.size, 2, none⟩ (.int .i64 0)).setCell ⟨w.heap.size, 3, none⟩ (.int .i64 0)) (w.heap.size + 1) 0 (.agg Tryz.zeroCells65) = wz at *
        generalize Tryz.zeroCells65 = Z at *
        exact bodyPost_ret (results_2rows rfl _ _ w.heap.size (w.heap.size + 1) 71 65 (headArr [] 0 0 0) Z (0, 0) (0, 0) _ _ (by rfl) m1 Tryz.underlying71 rfl size69 (by rfl) m2 Tryz.underlying65 rfl HI) rfl ⟨by rw [(NO.out E.out).1, (NO.out E.out).2, E.out]; rfl, m3⟩
      · have E : Hid (ok = true) := by show _ = _; rw [OKE.out, hro, hx]; rfl
        have EY := hid (HY1.out E.out)
        obtain ⟨x0, x1, x2, x3, ha⟩ := M4.out.a
        have hz := M4.out.z
        have a0 := blk_cell ha 0
        have a1 := blk_cell ha 1
        have a2 := blk_cell ha 2
        have a3 := blk_cell ha 3
        have f0 := blk_frozen ha 0
        have f1 := blk_frozen ha 1
        have f2 := blk_frozen ha 2
        have f3 := blk_frozen ha 3
        have k0 := blk_cell K4.out 0
        have k1 := blk_cell K4.out 1
        have k2 := blk_cell K4.out 2
        have k3 := blk_cell K4.out 3
        have hrow := rowOf_pc Q4.out
        have hhas := Has_pc Q4.out
        have hw1 : HasW w4 (w.heap.size + 1) 0 := HasW_of hz zle63
        have hw2 : HasW (set4 w4 w.heap.size (.string ⟨#[c0]⟩) (.int .i64 fr) (.int .i64 tt) (.int .i64 cn)) (w.heap.size + 1) 0 := HasW_of (set4_ne (A := w.heap.size) hz (by omega) _ _ _ _) zle63
        unfold set4 at hw2
        have hap : (putRowAt w4 (w.heap.size + 1) 0 (.agg (readP t).arr)).heap[w.heap.size]? = some (.cells #[x0, x1, x2, x3] 71) := (put_ne (by omega)).trans ha
        have b0 := blk_cell hap 0
        have b1 := blk_cell hap 1
        have b2 := blk_cell hap 2
        have b3 := blk_cell hap 3
        have e0 := blk_frozen hap 0
        have e1 := blk_frozen hap 1
        have e2 := blk_frozen hap 2
        have e3 := blk_frozen hap 3
        have q2 : (set4 w4 w.heap.size (.string ⟨#[c0]⟩) (.int .i64 fr) (.int .i64 tt) (.int .i64 cn)).heap[qb]? = some (.cells (readP t).arr 65) := set4_ne (A := w.heap.size) Q4.out (by omega) _ _ _ _
        unfold set4 at q2
        have hrow2 := rowOf_pc q2
        have hhas2 := Has_pc q2
        have hkp : (putRowAt w4 (w.heap.size + 1) 0 (.agg (readP t).arr)).heap[hb]? = some (.cells #[.string ⟨#[c0]⟩, .int .i64 fr, .int .i64 tt, .int .i64 cn] 71) := (put_ne (by omega)).trans K4.out
        have g0 := blk_cell hkp 0
        have g1 := blk_cell hkp 1
        have g2 := blk_cell hkp 2
        have g3 := blk_cell hkp 3
        generalize readP t = qq at *
        have HAA := hid ha
        have HZZ := hid hz
        have BL4 := hid M4.out.bl
        clear hap ha hz hkp q2 M2 M4 K2 HX0 HX5 HR h5 h300 h5' OKE NO HY1
        go_upto_region 11 with fail
        clear hlt hlt3 hlt4 hro hx hx1 hx3  K4 Q4 HYS
        go_region
        have n1 := set4_self HAA.out (.string ⟨#[c0]⟩) (.int .i64 fr) (.int .i64 tt) (.int .i64 cn)
        have n2 := set4_ne (A := w.heap.size) HZZ.out (by omega) (.string ⟨#[c0]⟩) (.int .i64 fr) (.int .i64 tt) (.int .i64 cn)
        have n3 := (set4_blw BL4.out (Nat.le_refl w.heap.size) (.string ⟨#[c0]⟩) (.int .i64 fr) (.int .i64 tt) (.int .i64 cn)).dr
        unfold set4 at n1 n2 n3
        have m1 : (putRowAt ((((w4.setCell ⟨w.heap.size, 0, none⟩ (.string ⟨#[c0]⟩)).setCell ⟨w.heap.size, 1, none⟩ (.int .i64 fr)).setCell ⟨w.heap.size, 2, none⟩ (.int .i64 tt)).setCell ⟨w.heap.size, 3, none⟩ (.int .i64 cn)).drew (w.heap.size + 1) 0 (.agg qq.arr)).heap[w.heap.size]? = some (.cells (headArr [c0] fr tt cn) 71) := (put_ne (by omega)).trans n1
        have m2 : (putRowAt ((((w4.setCell ⟨w.heap.size, 0, none⟩ (.string ⟨#[c0]⟩)).setCell ⟨w.heap.size, 1, none⟩ (.int .i64 fr)).setCell ⟨w.heap.size, 2, none⟩ (.int .i64 tt)).setCell ⟨w.heap.size, 3, none⟩ (.int .i64 cn)).drew (w.heap.size + 1) 0 (.agg qq.arr)).heap[w.heap.size + 1]? = some (.cells qq.arr 65) := put_pc (show (World.drew _).heap[w.heap.size + 1]? = _ from n2) zsize63
        have m3 : Blw w (putRowAt ((((w4.setCell ⟨w.heap.size, 0, none⟩ (.string ⟨#[c0]⟩)).setCell ⟨w.heap.size, 1, none⟩ (.int .i64 fr)).setCell ⟨w.heap.size, 2, none⟩ (.int .i64 tt)).setCell ⟨w.heap.size, 3, none⟩ (.int .i64 cn)).drew (w.heap.size + 1) 0 (.agg qq.arr)) := put_blw n3 _ _ (by omega)
        have HIQ : (Tryz.prog.info? 65).map (·.size) = some qq.arr.size := by rw [size63, Pc.size]
        clear n1 n2 n3 hrow hhas hrow2 hhas2 hw1 hw2 a0 a1 a2 a3 f0 f1 f2 f3 k0 k1 k2 k3 b0 b1 b2 b3 e0 e1 e2 e3 g0 g1 g2 g3
        generalize putRowAt ((((w4.setCell ⟨w.heap.size, 0, none⟩ (.string ⟨#[c0]⟩)).setCell ⟨w.heap.size, 1, none⟩ (.int .i64 fr)).setCell ⟨w.heap.size, 2, none⟩ (.int .i64 tt)).setCell ⟨w.heap.size, 3, none⟩ (.int .i64 cn)).drew (w.heap.size + 1) 0 (.agg qq.arr) = wz at *
        go_wp2_with fail
        exact bodyPost_ret (results_2rows rfl _ _ w.heap.size (w.heap.size + 1) 71 65 (headArr [c0] fr tt cn) qq.arr (0, 0) (0, 0) _ _ (by rfl) m1 Tryz.underlying71 rfl size69 (by rfl) m2 Tryz.underlying65 rfl HIQ) rfl ⟨by rw [EY.out.1, EY.out.2, E.out]; rfl, m3⟩

end Go.Proofs.YtalaldfgjgpacaaGreatDoor
