import Derived.Test.YtalaldfgjgpacaaGreatDoorP1
namespace Go.Proofs.YtalaldfgjgpacaaGreatDoor
set_option linter.unusedVariables false
set_option linter.unusedSimpArgs false
open Go.RowKit
attribute [local go_sem ↓] Go.wp_at_zero Go.wp_at_succ

theorem PairAt.on {base B : Nat} {w w' : World} {d : PD} (h : PairAt base B w d) (hb : Blw w w') (B' : Nat) (hB : B ≤ B') : PairAt base B' w' d :=
  ⟨hb.bk' h.pb, hb.bk' h.b, h.cb.on hb, h.me, h.n, h.fine, h.hole, Nat.le_trans h.had (Nat.add_le_add_right hB 100), Nat.le_trans h.log (Nat.mul_le_mul_right _ (Nat.add_le_add_right hB 10)), h.l1, h.l2, h.l3, h.l4, h.sz⟩
theorem PStep.same {base B : Nat} {w w' : World} {d : PD} (h : PairAt base B w d) (hb : Blw w w') (B' : Nat) (hB : B ≤ B') : PStep base B' d w w' :=
  ⟨⟨d, h.on hb B' hB, rfl, rfl, rfl, .inl rfl⟩, hb.b2 _⟩

theorem st_len (p : Pc) (n : Nat) (hn : n ≤ 3) (hp : p.ok) : (p.digsTo n ++ [59] ++ p.entTo 12).length ≤ 1000 := by
  have := entTo_len' p hp
  simp only [List.length_append, digsTo_len, List.length_singleton]; omega

set_option maxRecDepth 100000 in
set_option maxHeartbeats 2000000 in
theorem other2 (base B : Nat) (d : PD) (r t a bb c : Int) (s : ByteArray) (w : World) (h : PairAt base B w d) :
    Calls Tryz.prog 23 #[.pointer (some ⟨d.pb, 0, none⟩), .agg (opArr 2 r t a bb c s)] w fun e w' => e = .returned (.bool true) ∧ PStep base (B + 1) d w w' := by
  obtain ⟨x1, x2, ac, D, E, ln, ls, q1, q2, q3, q4, q5, q6⟩ := h.cb.h
  have HP := hid (fun wx hx => state_any (xt := d.x) d.b d.me d.n d.p wx h.n h.fine.ok hx)
  have HQ := hid (fun wx (hx : Blw w wx) => rstate_any d.cb d.me d.n x1 x2 d.x.had d.lt ac d.x.log D E wx h.n (hx.bq q1) ((q6.pcAt h.fine.ok q2 q3).on hx))
  rw [q6.tok h.fine.ok, q6.ents h.fine.ok] at HQ
  have hl := st_len d.p d.n h.n h.fine.ok
  generalize d.p.digsTo d.n ++ [59] ++ d.p.entTo 12 = st at *
  have H := hid h
  have BX : Hid (Blw w (w.alloc (.cells (opArr 2 r t a bb c s) 46))) := (Blw.rfl _).al _
  have c0 : (w.alloc (.cells (opArr 2 r t a bb c s) 46)).cell? ⟨d.pb, 0, none⟩ = some (.pointer (some ⟨d.b, 0, none⟩)) := blk_cell (BX.out.bk' h.pb) 0
  have hst : (st == st) = true := by simp
  clear h q1 q2 q3 q4 q5 q6
  unfold opArr at *
  go_enter Tryz.func23, Tryz.ntmps23
  go_wp2_with fail
  refine (HP.out _ (BX.out.bk' H.out.b)).mono ?_
  rintro e w1 ⟨rfl, b1⟩
  have B1 := hid (BX.out.tr b1)
  have c1 : w1.cell? ⟨d.pb, 1, none⟩ = some (.pointer (some ⟨d.cb, 0, none⟩)) := blk_cell (B1.out.bk' H.out.pb) 1
  clear b1 c0
  go_wp2_with fail
  refine (HQ.out _ B1.out).mono ?_
  rintro e w2 ⟨rfl, b2⟩
  have B2 := hid (B1.out.tr b2)
  clear b2 c1
  go_wp2
  go_ret
  exact ⟨rfl, PStep.same H.out B2.out _ (Nat.le_succ _)⟩

/-- A new pair. -/
theorem pair_new {base : Nat} {me n : Nat} (hn : n ≤ 3) (hm : me < n) {w w1 w2 w3 : World} {pb cb b : Nat} (hw : base ≤ w.heap.size) (B : Nat) (h1 : w1.heap[b]? = some (.cells (repArr me n Pc.empty Ext.zero) 69)) (hb : w.heap.size ≤ b) (h2 : RefAt w2 cb me n Pc.empty Ext.zero (.slice none 0 0)) (hcb : w.heap.size ≤ cb - 1) (b12 : Blw w1 w2) (b23 : Blw w2 w3) (hpb : w.heap.size ≤ pb)
    (h3 : w3.heap[pb]? = some (.cells #[.pointer (some ⟨b, 0, none⟩), .pointer (some ⟨cb, 0, none⟩)] 52)) : PairAt base B w3 ⟨pb, b, cb, me, n, Pc.empty, Ext.zero, .slice none 0 0⟩ :=
  ⟨h3, (b12.tr b23).bk' h1, h2.on b23, hm, hn, fine_empty, noHole_empty, Nat.zero_le _, Nat.zero_le _, Nat.le_trans hw hb, Nat.le_trans hw hcb, (fun g hg => by cases hg), Nat.le_trans hw hpb, ⟨Nat.zero_le _, fun _ => Nat.le_refl _⟩⟩

set_option maxRecDepth 100000 in
set_option maxHeartbeats 2000000 in
theorem begin1_no (r t a bb c : Int) (s : ByteArray) (w : World) (hno : newOk a bb = false) :
    Calls Tryz.prog 20 #[.agg (opArr 1 r t a bb c s)] w fun e w' => ∃ g, e = .returned (.tuple #[.pointer (some ⟨g, 0, none⟩), .bool true]) ∧ w'.heap[g]? = some (.cells #[.pointer none, .pointer none] 52) ∧ Blw w w' := by
  have HN := hid (fun wx => new_no a bb wx hno)
  have HR := hid (fun wx => rnew_no a bb wx hno)
  clear hno
  unfold opArr
  go_enter Tryz.func20, Tryz.ntmps20
  go_wp2_with fail
  refine (HN.out _).mono ?_
  rintro e w1 ⟨rfl, hw1⟩
  subst w1
  go_wp2_with fail
  refine (HR.out _).mono ?_
  rintro e w1 ⟨rfl, hw1⟩
  subst w1
  go_wp2_with fail
  refine (num_any 1 _).mono ?_
  rintro e w1 ⟨rfl, hw1⟩
  subst w1
  go_wp2
  go_ret2
  exact ⟨_, rfl, hp_new2 w _ _, ((Blw.rfl _).al _).al _⟩

theorem newOk_nat {a b : Int} (h : newOk a b = true) : ∃ me n : Nat, a = me ∧ b = n ∧ me < n ∧ n ≤ 3 := by
  simp only [newOk, Bool.and_eq_true, decide_eq_true_eq] at h
  exact ⟨a.toNat, b.toNat, by omega, by omega, by omega, by omega⟩

set_option maxRecDepth 100000 in
set_option maxHeartbeats 2000000 in
theorem begin1_yes (base B : Nat) (r t c : Int) (me n : Nat) (s : ByteArray) (w : World) (hbs : base ≤ w.heap.size) (hm : me < n) (hn : n ≤ 3) :
    Calls Tryz.prog 20 #[.agg (opArr 1 r t me n c s)] w fun e w' => ∃ d : PD, e = .returned (.tuple #[.pointer (some ⟨d.pb, 0, none⟩), .bool true]) ∧ PairAt base B w' d ∧ Blw w w' ∧ w.heap.size ≤ d.b ∧ w.heap.size ≤ d.cb ∧ d.lt.ownBlock = none := by
  have HN := hid (fun wx => new_yes me n wx hn hm)
  have HR := hid (fun wx => rnew_yes me n wx hn hm)
  have BX : Hid (Blw w (w.alloc (.cells (opArr 1 r t me n c s) 46))) := (Blw.rfl _).al _
  have HW := hid (hp_new w (.cells (opArr 1 r t me n c s) 46))
  unfold opArr at *
  go_enter Tryz.func20, Tryz.ntmps20
  go_wp2_with fail
  refine (HN.out _).mono ?_
  rintro e w1 ⟨rfl, hw1⟩
  have b1 : Blw (w.alloc (.cells #[.int .i64 1, .int .i64 r, .int .i64 t, .int .i64 me, .int .i64 n, .int .i64 c, .string s] 46)) w1 := by rw [hw1]; exact (Blw.rfl _).al _
  have g1 : w1.heap[w.heap.size + 1]? = some (.cells (repArr me n Pc.empty Ext.zero) 69) := by rw [hw1]; exact hp_new2 w _ _
  have G1 := hid g1
  have B1 := hid (BX.out.tr b1)
  have g2 := b1.bk' HW.out
  have e3 : w1.cell? ⟨w.heap.size, 3, none⟩ = some (.int .i64 me) := blk_cell g2 3
  have e4 : w1.cell? ⟨w.heap.size, 4, none⟩ = some (.int .i64 n) := blk_cell g2 4
  clear hw1 b1 g1 g2
  go_wp2_with fail
  refine (HR.out _).mono ?_
  rintro e w2 ⟨rfl, r2, b2⟩
  have R2 := hid r2
  have B2 := hid b2
  have s1 := B1.out.sz
  clear r2 b2 e3 e4
  go_wp2_with fail
  refine (num_any 0 _).mono ?_
  rintro e w3 ⟨rfl, hw3⟩
  subst w3
  go_wp2
  go_ret2
  exact ⟨⟨_, _, _, me, n, Pc.empty, Ext.zero, .slice none 0 0⟩, rfl, pair_new hn hm (w := w) hbs B G1.out (by omega) R2.out (by omega) B2.out ((Blw.rfl _).al _) (Nat.le_trans s1 B2.out.sz) (hp_new _ _), (B1.out.tr B2.out).al _, by show _ ≤ _ + 1; omega, by show _ ≤ _ + 1; omega, rfl⟩
end Go.Proofs.YtalaldfgjgpacaaGreatDoor
