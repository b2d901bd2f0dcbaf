import Derived.Test.YtalaldfgjgpacabGreatDoorHAV
import Derived.Test.YtalaldfgjgpacabGreatDoorSQF
import Derived.Test.YtalaldfgjgpacabGreatDoorSQI
import Derived.Test.YtalaldfgjgpacabGreatDoorChecked
namespace Go.Proofs.YtalaldfgjgpacabGreatDoor
set_option linter.unusedVariables false
set_option linter.unusedSimpArgs false
open Go.RowKit
attribute [local go_sem ↓] Go.wp_at_zero Go.wp_at_succ

open Go.ChangeShapes Go.WideShapes Go.ChangeAt Go.Deep

set_option maxRecDepth 100000 in
set_option maxHeartbeats 16000000 in
/-- Spreads, whatever the script and the number. -/
theorem spreads_all (v : Value) (a1 : Int) (w : World) (ht : Tab Tryz.prog w) {ad : Option Addr} {len cap : Nat} {ops : Nat → OpR} (h : ScriptAt w v ad len cap ops) (h1 : i64ok a1) :
    Calls Tryz.prog 7 #[v, .int .i64 a1] w fun e w' => e = .returned (.bool true) ∧ Below w.heap.size w w' := by
  have HSM := hid (small_at h)
  have HH := hid h
  have HT := hid ht
  clear h ht
  go_enter Tryz.func7, Tryz.ntmps7
  go_wp2_with fail
  refine HSM.out.mono ?_
  rintro e w2 ⟨he, hw2⟩
  subst w2
  rcases he with ⟨rfl, hlen⟩ | rfl
  · by_cases c1 : a1 < 1
    · have d1 : decide (a1 < 1) = true := by simpa using c1
      clear c1 h1
      go_wp2
      go_ret
      exact ⟨rfl, Blw.rfl w⟩
    · have d1 : decide (a1 < 1) = false := by simpa using c1
      by_cases c3 : 3 < a1
      · have d3 : decide (3 < a1) = true := by simpa using c3
        clear c1 c3 h1
        go_wp2
        go_ret
        exact ⟨rfl, Blw.rfl w⟩
      · have d3 : decide (3 < a1) = false := by simpa using c3
        obtain ⟨n, rfl⟩ : ∃ n : Nat, a1 = (n : Int) := ⟨a1.toNat, by omega⟩
        have hn1 : 1 ≤ n := by omega
        have hn3 : n ≤ 3 := by omega
        have HRN := hid (runs_0 (fun _ => True) ops len cap n ad 0 13 w hn1 hn3 (.inl rfl) hlen HH.out.ok trivial (fun _ _ _ _ _ _ _ => trivial) HH.out.lies HT.out)
        rw [← HH.out.val] at HRN
        have hmk := fun wx => mkAckN hn1 hn3 wx
        clear c1 c3 h1
        go_wp2_with fail
        refine HRN.out.mono ?_
        rintro e w3 ⟨rfl, m, s, hR⟩
        have HR := hid hR
        have hsn := hR.hn
        obtain ⟨W4, hW4⟩ : ∃ W4, W4 = w3.alloc (.cells (intsV (vecL n Vec.zero)) 3) := ⟨_, rfl⟩
        have HW4 := hid hW4
        have f4 : Blw w3 W4 ∧ W4.heap[w3.heap.size]? = some (.cells (intsV (vecL n (FillV s.K 0))) 3) := by
          rw [hW4]
          exact ⟨(Blw.rfl w3).al _, hp_new w3 _⟩
        have F4 := hid f4
        clear hR hW4 f4
        go_wp2_with fail
        try rw [← HW4.out]
        clear hmk
        go_loopw [8] (fun i wr => ∃ k : Nat, k ≤ n ∧ i = .int .i64 k ∧ Blw w3 wr ∧ wr.heap[w3.heap.size]? = some (.cells (intsV (vecL n (FillV s.K k))) 3)) (fun i _ => n - (intOf i).toNat)
        case atStart => exact ⟨0, by omega, rfl, F4.out.1, F4.out.2⟩
        case round =>
          obtain ⟨k, hk, rfl, hb, hal⟩ := hrel
          by_cases hlt : k < n
          · have hks : k < s.n := by omega
            have cl := HR.out.cl.blw hb
            have c3' : wr.cell? ⟨w.heap.size, 3, none⟩ = some (.slice (some ⟨m.kb, 0, none⟩) n m.ck) := by rw [← HR.out.cb, cl.cell, ← hsn]; rfl
            have ck0 : wr.cell? ⟨m.kb, k, none⟩ = some (.slice (some ⟨m.g k, 0, none⟩) n n) := by rw [cl.k0 hks, hsn]
            have cg0 : wr.cell? ⟨m.g k, k, none⟩ = some (.int .i64 (s.K k k)) := cl.g0 hks hks
            have ca0 : wr.cell? ⟨w3.heap.size, k, none⟩ = some (.int .i64 (FillV s.K k k)) := by rw [blk_cell hal]; exact vecL_at _ hlt
            have caf : wr.frozen? ⟨w3.heap.size, k, none⟩ = false := blk_frozen hal k
            have hset : (wr.setCell ⟨w3.heap.size, k, none⟩ (.int .i64 (s.K k k))).heap[w3.heap.size]? = some (.cells (intsV (vecL n (FillV s.K (k + 1)))) 3) := by
              rw [heap_setCell_self hal, vecL_set _ _ _ _ hlt, fill_step]
            have hbs : Blw w3 (wr.setCell ⟨w3.heap.size, k, none⟩ (.int .i64 (s.K k k))) := Below.setCell hb (Nat.le_refl _) _
            have HX := hid (And.intro hbs hset)
            clear hb hal cl hset hbs
            go_wp2
            go_roundw
            case rel => exact ⟨k + 1, by omega, by go_num, HX.out.1, HX.out.2⟩
            case measure => simp [intOf]; omega
          · have hkn : k = n := by omega
            subst hkn
            obtain ⟨T, hT⟩ : ∃ T, T = FillV s.K k := ⟨_, rfl⟩
            rw [← hT] at hal
            obtain ⟨alb, halb⟩ : ∃ alb, alb = w3.heap.size := ⟨_, rfl⟩
            rw [← halb] at hal ⊢
            obtain ⟨ea, ecap, us, hsp⟩ := HR.out.sp HT.out hb hal
            obtain ⟨E, V, hC⟩ := HR.out.ran.inv.core
            rw [hsn] at hC
            have hS0 : Sp3 k T 0 0 0 s.p s.x s.K s.evs E V := ⟨hC.bareL, fun q hq => by rw [hT]; unfold FillV; rw [if_neg (by omega)], fun a ha => by rw [hT]; unfold FillV; rw [if_pos ha], (fun h => absurd h (by omega)), (fun h => absurd h (by omega)), (fun a b _ _ _ hc => by rcases hc with c | ⟨_, c⟩ <;> exact absurd c (Nat.not_lt_zero _)), (fun h => absurd h (by omega))⟩
            have I0 := hid (And.intro hsp hS0)
            have HEV := hid (And.intro (ev_len HR.out.ran.inv) (ev_vals HR.out.ran.inv))
            clear hb hal hsp hS0 hC hT halb
            obtain ⟨n, hkn⟩ : ∃ n, n = k := ⟨_, rfl⟩
            subst hkn
            go_wp2_with fail
            go_loopw [5, 9] (fun ok rd wr => ∃ (r : Nat) (p : Nat → Pc) (x : Nat → Ext) (K : Nat → Vec) (V : Nat → Nat → Vec), r ≤ 3 ∧ ok = .bool true ∧ rd = .int .i64 r ∧ SpAt w wr w.heap.size m.xb m.kb n m.cx m.ck (rowA m s) m.xa m.b ea ecap s.evs us alb T p x ∧ Sp3 n T r 0 0 p x K s.evs E V) (fun _ rd _ => 3 - (intOf rd).toNat)
            case atStart => exact ⟨0, s.p, s.x, s.K, V, by omega, rfl, rfl, I0.out.1, I0.out.2⟩
            case round =>
              obtain ⟨r, p, x, K, V1, hr, rfl, rfl, hsp, hS⟩ := hrel
              have I1 := hid (And.intro hsp hS)
              clear hsp hS
              by_cases hr3 : r < 3
              · have dr3 : decide ((r : Int) < (3 : Int)) = true := by simp; omega
                go_wp2_with fail
                go_loopw [5, 10] (fun ok ii wr => ∃ (i : Nat) (p : Nat → Pc) (x : Nat → Ext) (K : Nat → Vec) (V : Nat → Nat → Vec), i ≤ n ∧ ok = .bool true ∧ ii = .int .i64 i ∧ SpAt w wr w.heap.size m.xb m.kb n m.cx m.ck (rowA m s) m.xa m.b ea ecap s.evs us alb T p x ∧ Sp3 n T r i 0 p x K s.evs E V) (fun _ ii _ => n - (intOf ii).toNat)
                case atStart => exact ⟨0, p, x, K, V1, by omega, rfl, rfl, I1.out.1, I1.out.2⟩
                case round =>
                  obtain ⟨i, p, x, K, V2, hi, rfl, rfl, hsp, hS⟩ := hrel
                  have I2 := hid (And.intro hsp hS)
                  clear hsp hS
                  by_cases hin : i < n
                  · have din : decide ((i : Int) < (n : Int)) = true := by simp; omega
                    go_wp2_with fail
                    go_loopw [5, 11] (fun ok jj wr => ∃ (j : Nat) (p : Nat → Pc) (x : Nat → Ext) (K : Nat → Vec) (V : Nat → Nat → Vec), j ≤ n ∧ ok = .bool true ∧ jj = .int .i64 j ∧ SpAt w wr w.heap.size m.xb m.kb n m.cx m.ck (rowA m s) m.xa m.b ea ecap s.evs us alb T p x ∧ Sp3 n T r i j p x K s.evs E V) (fun _ jj _ => n - (intOf jj).toNat)
                    case atStart => exact ⟨0, p, x, K, V2, by omega, rfl, rfl, I2.out.1, I2.out.2⟩
                    case round =>
                      obtain ⟨j, p, x, K, V3, hj, rfl, rfl, hsp, hS⟩ := hrel
                      have I3 := hid (And.intro hsp hS)
                      clear hsp hS
                      by_cases hjn : j < n
                      · by_cases hij : i = j
                        · subst hij
                          go_wp2
                          go_roundw
                          case rel => exact ⟨i + 1, p, x, K, V3, by omega, rfl, by go_num, I3.out.1, I3.out.2.same⟩
                          case measure => simp [intOf]; omega
                        · have hijI : ((i : Int) != (j : Int)) = true := by simp; omega
                          have hijE : ((i : Int) == (j : Int)) = false := by simp; omega
                          by_cases hs : (x i).had = (x i).ack j
                          · have HQ := hid (tells_quiet I3.out.1 I3.out.2.core hin hjn hij hs)
                            have N3 := hid (I3.out.2.quiet hin hjn hij hs)
                            clear hs
                            go_wp2_with fail
                            refine HQ.out.mono ?_
                            rintro e w6 ⟨rfl, b6⟩
                            have I6 := hid (I3.out.1.blw b6)
                            clear b6
                            go_wp2
                            go_roundw
                            case rel => exact ⟨j + 1, p, x, K, V3, by omega, rfl, by go_num, I6.out, N3.out⟩
                            case measure => simp [intOf]; omega
                          · have HQ := hid (tells_send I3.out.1 I3.out.2.core hin hjn hij hs)
                            have hr2 := I3.out.2.few hin hjn hij hs
                            have d2 : decide ((r : Int) < (2 : Int)) = true := by simp; omega
                            have HS := hid hs
                            clear hs
                            go_wp2_with fail
                            refine HQ.out.mono ?_
                            rintro e w6 ⟨rfl, p', x', V', hsp, hC6, hq6⟩
                            have I6 := hid (And.intro hsp (I3.out.2.send hin hjn hij HS.out hC6 hq6))
                            clear hsp hC6 hq6
                            go_wp2
                            go_roundw
                            case rel => exact ⟨j + 1, _, _, _, V', by omega, rfl, by go_num, I6.out.1, I6.out.2⟩
                            case measure => simp [intOf]; omega
                      · have hjn' : j = n := by omega
                        subst hjn'
                        go_wp2
                        go_roundw
                        case rel => exact ⟨i + 1, p, x, K, V3, by omega, rfl, by go_num, I3.out.1, I3.out.2.row⟩
                        case measure => simp [intOf]; omega
                  · have hin' : i = n := by omega
                    subst hin'
                    have HKT := hid (fun a (ha : a < i) => I2.out.2.eqT ha)
                    go_wp2_with fail
                    go_loopw [5, 14] (fun ok ii wr => ∃ (q : Nat), q ≤ i ∧ ok = .bool true ∧ ii = .int .i64 q ∧ SpAt w wr w.heap.size m.xb m.kb i m.cx m.ck (rowA m s) m.xa m.b ea ecap s.evs us alb T p x) (fun _ ii _ => i - (intOf ii).toNat)
                    case atStart => exact ⟨0, by omega, rfl, rfl, I2.out.1⟩
                    case round =>
                      obtain ⟨q, hq, rfl, rfl, hsp⟩ := hrel
                      by_cases hqn : q < i
                      · have u3 : wr.cell? ⟨w.heap.size, 3, none⟩ = some (.slice (some ⟨m.kb, 0, none⟩) i m.ck) := by rw [blk_cell hsp.row]; exact hsp.r3
                        obtain ⟨ka, hk1, hk2⟩ := hsp.kn
                        obtain ⟨kv, hkv⟩ : ∃ kv, wr.cell? ⟨m.kb, q, none⟩ = some kv := by
                          rw [blk_cell hk1]
                          exact ⟨_, Array.getElem?_eq_getElem (by omega)⟩
                        have kf : wr.frozen? ⟨m.kb, q, none⟩ = false := blk_frozen hk1 q
                        obtain ⟨hs1, hs2⟩ := hsp.kset hqn
                        have LK := hs1.look hqn hs2
                        have ri := I2.out.2.core.rep q hqn
                        have hKq := HKT.out q hqn
                        have hpq : p q = held E T := by rw [ri.is, hKq]
                        have n3 := I2.out.2.core.n3
                        have hc : ∀ z, z < i → (p q).count (z : Int) = T z := by
                          intro z hz
                          rw [hpq]
                          exact held_count E (by omega) (by have := ri.bnd.nine z; rw [hKq] at this; exact this)
                        have HSE := hid (sees_at LK n3 hqn ri.ok.fine.ok (fun z => by have := ri.bnd.nine z; rw [hKq] at this; exact this) hc)
                        have hms : ∀ c : Int, meantTo s.evs T c 4 = (p q).sumsTo c 4 := by
                          intro c
                          rw [hpq]
                          exact meant_sums I2.out.2.core.named I2.out.2.core.evs (fun z hz => (I2.out.2.core.rep z hz).bnd.nine z) (by have := ri.bnd; rw [hKq] at this; exact this) n3 (fun z hz => by rw [I2.out.2.diag z hz]; exact Nat.le_refl _) c 4
                        have HRE := hid (fun (wx : World) (hb : Blw (wr.setCell ⟨m.kb, q, none⟩ (.slice (some ⟨alb, 0, none⟩) i i)) wx) => reads_at (LK.blw hb) (by rw [blk_cell (hs1.blw hb).row]; exact (hs1.blw hb).r4) (hs1.blw hb).ev n3 hqn HEV.out.1 HEV.out.2 ri.ok.fine.ok (hs1.blw hb).tab hms)
                        have IS := hid hs1
                        have hq0 : (0 : Int) ≤ (q : Int) := Int.natCast_nonneg _
                        have hq1 : (q : Int) < (i : Int) := by omega
                        clear hsp hk1 hk2 hs1 hs2 LK ri hKq hpq hc hms
                        go_wp2_with fail
                        refine HSE.out.mono ?_
                        rintro e w6 ⟨rfl, b6⟩
                        have B6 := hid b6
                        clear b6
                        go_wp2_with fail
                        refine (HRE.out _ B6.out).mono ?_
                        rintro e w7 ⟨rfl, b7⟩
                        have I7 := hid (IS.out.blw (B6.out.tr b7))
                        clear b7
                        go_wp2
                        go_roundw
                        case rel => exact ⟨q + 1, by omega, rfl, by go_num, I7.out⟩
                        case measure => simp [intOf]; omega
                      · have hqn' : q = i := by omega
                        subst hqn'
                        have I8 := hid hsp
                        clear hsp
                        go_wp2
                        go_roundw
                        case rel => exact ⟨r + 1, p, x, K, V2, by omega, rfl, by go_num, I8.out, I2.out.2.round⟩
                        case measure => simp [intOf]; omega
              · have hr3' : r = 3 := by omega
                subst hr3'
                have BF := hid I1.out.1.bl
                go_wp2
                go_ret
                exact ⟨rfl, BF.out⟩
  · clear h1
    go_wp2
    go_ret
    exact ⟨rfl, Blw.rfl w⟩

/-- What the row's list gives: the table, third on the list. -/
theorem tabOfSpreads {W : World} (h : laidMetH Tryz.prog Rows.spreadsRow.laid W) : Tab Tryz.prog W := by
  have h' : laidMet Tryz.prog Rows.spreadsRow.laid W := h
  obtain ⟨ps, ⟨g1, t1, cs1, f1, p1, q1, _, _, _, _, ⟨g2, t2, cs2, f2, p2, q2, _, _, _, _, hrest, _⟩, _⟩, _⟩ := h'
  obtain ⟨g', t', cs, fuel, p, q, hg', ht', hvar, hd, _, _⟩ := hrest
  obtain rfl := Option.some.inj (gPow.symm.trans hg')
  obtain rfl := Option.some.inj (gPowType.symm.trans ht')
  unfold Tab Lib.TabIs
  rw [powData] at hd
  rw [hvar, ← Lib.cells_of_tab Tryz.underlying137 Tryz.underlying130 cells88 cells94 hd]

set_option maxRecDepth 100000 in
theorem spreads_contract (H : Type) (enc : TypeId × Value → H) (W : World) (base : Nat) (args : Array Value) (ds gs : List (DataW H)) (before : List MemPlace)
    (hval : ∀ (j : Nat) t v, Tryz.f7.params[j]? = some t → args[j]? = some v → Value.okWide Tryz.prog W .any base t v)
    (hW : DataW.Whole enc Tryz.prog Tryz.f7.params.toList Rows.spreadsSpec.vars false W args.toList ds gs before)
    (hsz : (DataW.weightsEach Tryz.prog (Tryz.f7.params.toList ++ Rows.spreadsSpec.plain.varTypes Tryz.prog) (ds ++ gs)).all (· ≤ reachBytes) = true)
    (hL : laidMetH Tryz.prog Rows.spreadsRow.laid W) :
    Calls Tryz.prog 7 args W fun e W' => ∃ v, e = .returned v ∧ Rows.spreadsSpec.post enc Tryz.prog Tryz.f7 false true false false W args v W' := by
  have hW' := hW
  obtain ⟨p, q, hA0, hV, rfl, hfz, hnd⟩ := hW
  have hA : DataW.TrodAll enc Tryz.prog W 0 (fun _ => true) true Tryz.f7.params.toList args.toList ds p := hA0
  rw [Tryz.params7] at hA hval
  obtain ⟨v0, vs0, d0, ds0, p0, q0, hargs, rfl, rfl, h0, r0⟩ := trodAll_cons hA
  obtain ⟨v1, vs1, d1, ds1, p1, q1, rfl, rfl, rfl, h1, r1⟩ := trodAll_cons r0
  obtain ⟨rfl, rfl, rfl⟩ := trodAll_nil r1
  obtain rfl : args = #[v0, v1] := by cases args; simp_all
  obtain ⟨rfl, rfl⟩ := trodVars_none hV
  have lt0 : ∀ x ∈ p0, x.block < W.heap.size := by obtain ⟨m, hm⟩ := h0; exact DataW.trod_lt m _ _ _ hm
  obtain ⟨a1, rfl, rfl, rfl, w1⟩ := open_int Tryz.underlying3 (hval 1 3 v1 rfl rfl) h1
  obtain ⟨ad, len, cap, ops, hop⟩ := open_scriptO h0 hsz (okWide_slice Tryz.underlying22 (hval 0 22 v0 rfl rfl))
  clear hA0
  refine (spreads_all v0 a1 W (tabOfSpreads hL) hop (wf_bd w1)).mono fun e W' ⟨he, bel⟩ => ?_
  subst he
  exact ⟨_, rfl, _, _, _, [], _, [], hW', trodAll_mk1 (shut_bool Tryz.underlying4 _), (trodAll_cons_mk (Below.trod laidOut (by kernel_rfl) (of_decide_eq_true (by kernel_rfl)) h0 bel lt0) (trodAll_cons_mk (shut_int Tryz.underlying3 w1) trodAll_mk0)), rfl, bel.frame _, fun h => by cases h⟩
/-- A table's cells. -/
def tabCellsSpreads : DataW Unit → Array Value
  | .agg ps => (ps.map fun | .lit (.int k n) => Value.int k n | _ => undef).toArray
  | _ => #[]
/-- The three tables laid. -/
def layTabsSpreads (w : World) : World :=
  { w with heap := ((w.heap.modify 0 fun | .cells _ t frozen => .cells (tabCellsSpreads Rows.laid_internal_strconv_uint64pow10) t frozen | o => o).modify 1 fun | .cells _ t frozen => .cells (tabCellsSpreads Rows.laid_math_bits_deBruijn32tab) t frozen | o => o).modify 2 fun | .cells _ t frozen => .cells (tabCellsSpreads Rows.laid_math_bits_deBruijn64tab) t frozen | o => o }

set_option maxRecDepth 100000 in
theorem spreads_lifted (os : Os) (started : os.Started) (H : Type) (enc : TypeId × Value → H) (F : Stop.Interp) :
    ReturnsInHanded {} Tryz.checked os 7 .any ((OpenSpec.ofChange Rows.spreadsSpec).preRow enc Tryz.prog Tryz.f7 Rows.spreadsRow.domain false Rows.spreadsRow.laid) (((OpenSpec.ofChange Rows.spreadsSpec).at F).post enc Tryz.prog Tryz.f7 false true false false) := by
  have hl : laidMet Tryz.prog Rows.spreadsRow.laid ((layTabsSpreads (World.holding Tryz.prog os ⟨#[], #[], []⟩)).forCall (fun _ _ => 0) ⟨#[], #[.slice none 0 0, .int .i64 0], []⟩).memory := laidMet_of_run' 8 (by kernel_rfl) (by kernel_rfl)
  obtain ⟨places, hx⟩ : ∃ places, DataW.whole enc Tryz.prog ((layTabsSpreads (World.holding Tryz.prog os ⟨#[], #[], []⟩)).forCall (fun _ _ => 0) ⟨#[], #[.slice none 0 0, .int .i64 0], []⟩).memory Tryz.f7.params.toList Rows.spreadsSpec.vars false #[Value.slice none 0 0, Value.int .i64 0].toList 8 = some ([.nil, .lit (.int .i64 0)], [], places) := ⟨[], by kernel_rfl⟩
  refine returnsInHanded_of_row (C := Tryz.checked) (s := OpenSpec.ofChange Rows.spreadsSpec) own started (by kernel_rfl) Tryz.func7
    (witness_row_at (enc := enc) (C := Tryz.checked) false (layTabsSpreads (World.holding Tryz.prog os ⟨#[], #[], []⟩)) #[.slice none 0 0, .int .i64 0] rfl (by kernel_rfl) (by kernel_rfl) (by kernel_rfl)
      (OpenSpec.preRow_of_cond 8 hx (by kernel_rfl) (fun k hk => by cases hk) (by kernel_rfl) hl)) ?_
  intro W base args ds gs before hval hW _ _ hsz hL _ _
  exact spreads_contract H enc W base args ds gs before hval hW hsz hL

theorem spreads_said : Rows.SpreadsSaid :=
  OpenClaim.holds_of_cond 7 Tryz.f7 rfl rfl rfl rfl rfl rfl rfl ⟨rfl, rfl, rfl, rfl, rfl⟩ rfl rfl rfl rfl rfl (by kernel_rfl) Tryz.func7 (by kernel_rfl)
    (of_decide_eq_true (by kernel_rfl)) (by unfold Func.isWrapper; first | (rw [if_pos (by decide +kernel)]; kernel_rfl) | (rw [if_neg (by decide +kernel)]; exact ⟨rfl, rfl⟩))
    (fun os started H enc _ F => by rw [OpenClaim.pre_eq_preRow]; exact spreads_lifted os started H enc F)

theorem spreads_plain (f : FuncId) (fn : Func) (hf : Tryz.pinned.checked.prog.funcNamed Tryz.f7.name = some f) (hfn : Tryz.pinned.checked.prog.funcs[f]? = some fn) :
    false = Tryz.pinned.checked.prog.looks [] ∧ ∀ (j : Nat) t, fn.params[j]? = some t → Tryz.pinned.checked.prog.wantsStandIn t = false := by
  obtain rfl : f = 7 := Option.some.inj ((show Tryz.prog.funcNamed Tryz.f7.name = some 7 by kernel_rfl).symm.trans hf) |>.symm
  obtain rfl : fn = Tryz.f7 := (Option.some.inj (Tryz.func7.symm.trans hfn)).symm
  refine ⟨by kernel_rfl, fun j t ht => ?_⟩
  rw [Tryz.params7] at ht
  have hm : t = 22 ∨ t = 3 := by simpa using Array.mem_of_getElem? ht
  rcases hm with rfl | rfl
  · exact (show Tryz.prog.wantsStandIn 22 = false by kernel_rfl)
  · exact (show Tryz.prog.wantsStandIn 3 = false by kernel_rfl)

theorem spreads_card : Rows.SpreadsCardSaid :=
  Claim7.holds_tied_plain_at .later [] _ _ _ _ spreads_said (fun _ h => by cases h) (by kernel_rfl) (fun _ h => by cases h) spreads_row_tie rfl ⟨rfl, rfl⟩ (by kernel_rfl) rfl spreads_plain (by kernel_rfl)
#print axioms spreads_card
end Go.Proofs.YtalaldfgjgpacabGreatDoor
