import Derived.Test.YtalaldfgjgpacabGreatDoorQB
import Derived.Test.YtalaldfgjgpacabGreatDoorQH
import Derived.Test.YtalaldfgjgpacabGreatDoorSHBC
import Derived.Test.YtalaldfgjgpacabGreatDoorSHBD
import Derived.Test.YtalaldfgjgpacabGreatDoorY4c
namespace Go.Proofs.YtalaldfgjgpacabGreatDoor
set_option linter.unusedVariables false
set_option linter.unusedSimpArgs false
open Go.RowKit
attribute [local go_sem ↓] Go.wp_at_zero Go.wp_at_succ

set_option maxRecDepth 100000 in
set_option maxHeartbeats 8000000 in
/-- A replica tells of each cart what is meant. -/
theorem reads_at {w : World} {cb xb kb cx ck b g n r : Nat} {p : Pc} {x : Ext} {K : Vec} {ea : Option Addr} {ecap : Nat} {evs : List Ev} {us : Nat → Nat} (h : LookR w cb xb kb cx ck b g n r p x K) (hc4 : w.cell? ⟨cb, 4, none⟩ = some (.slice ea evs.length ecap)) (hE : EvsIn w n ea evs us) (hn : n ≤ 3) (hr : r < n) (hlen : evs.length ≤ 27) (hval : ∀ e, e ∈ evs → -99 ≤ e.value ∧ e.value ≤ 99) (hp : p.ok) (ht : Tab Tryz.prog w) (hm : ∀ c : Int, meantTo evs K c 4 = p.sumsTo c 4) :
    Calls Tryz.prog 18 #[.pointer (some ⟨cb, 0, none⟩), .int .i64 r] w fun e w' => e = .returned (.bool true) ∧ Blw w w' := by
  obtain ⟨len, hln⟩ : ∃ len, len = evs.length := ⟨_, rfl⟩
  rw [← hln] at hc4
  have HLN := hid hln
  obtain ⟨z, hz⟩ : ∃ z : ByteArray, z = ⟨(noughtsL n).toArray⟩ := ⟨_, rfl⟩
  have hzl : z.data.toList = noughtsL n := by rw [hz]
  have hzs : z.size ≤ maxLen := by rw [hz, ba_size]; unfold noughtsL maxLen; simp; omega
  have HZ := hid (zeros_any n w hn)
  rw [← hz] at HZ
  have HRD := hid (fun (c : Int) (h0 : 0 ≤ c) (h1 : c < 3) (wx : World) (hb : Blw w wx) => read_yes b r n p z c wx hn hzs hp (ht.blw hb) ((h.blw hb).rep) h0 h1 (by rw [hzl]; exact (tok_noughts n p).2))
  have HME := hid (fun (c : Int) (wx : World) (hb : Blw w wx) => meant_any (ecap := ecap) (hE.blw hb) hn hlen hval ((h.blw hb).gv) c)
  have HMM := hid hm
  have H := hid h
  have HC4 := hid hc4
  have v0 := h.c0
  have hr0 : (0 : Int) ≤ (r : Int) := Int.natCast_nonneg _
  have hr1 : (r : Int) < (n : Int) := by omega
  clear h hc4 hE hval ht hm hln hz hzl hzs hlen
  go_enter Tryz.func18, Tryz.ntmps18
  go_wp2_with fail
  refine HZ.out.mono ?_
  rintro e w1 ⟨rfl, hw1⟩
  subst w1
  go_wp2_with fail
  go_loopw [6] (fun i wr => ∃ k : Nat, k ≤ 3 ∧ i = .int .i64 k ∧ Blw w wr) (fun i _ => 3 - (intOf i).toNat)
  case atStart => exact ⟨0, by omega, rfl, Blw.rfl _⟩
  case round =>
    obtain ⟨k, hk, rfl, hb⟩ := hrel
    have HB := hid hb
    have u2 := (H.out.blw hb).c2
    have ux := (H.out.blw hb).xr
    by_cases hlt : k < 3
    · have HR3 := hid (HRD.out (k : Int) (by omega) (by omega) wr hb)
      obtain ⟨y, hy⟩ : ∃ y : ByteArray, y = ⟨(p.sumsTo (k : Int) 4).toArray⟩ := ⟨_, rfl⟩
      rw [← hy] at HR3
      have HM3 := hid (fun (wx : World) (hb : Blw w wx) => HME.out (k : Int) wx hb)
      rw [HMM.out, ← hy, ← HLN.out] at HM3
      obtain ⟨dg, hdg⟩ : ∃ dg : ByteArray, dg = ⟨(p.digsTo n).toArray⟩ := ⟨_, rfl⟩
      rw [← hdg] at HR3
      clear hy hb hdg
      go_wp2_with fail
      refine HR3.out.mono ?_
      rintro e w3 ⟨rfl, b3⟩
      have B3 := hid (HB.out.tr b3)
      have HS := hid (fun (wx : World) (hb : Blw w wx) => show (wx.cell? ⟨cb, 4, none⟩ = some (.slice ea len ecap) ∧ wx.cell? ⟨cb, 3, none⟩ = some (.slice (some ⟨kb, 0, none⟩) n ck) ∧ wx.cell? ⟨kb, r, none⟩ = some (.slice (some ⟨g, 0, none⟩) n n)) from ⟨cell_blw hb HC4.out, (H.out.blw hb).c3, (H.out.blw hb).kr⟩)
      clear b3 u2 ux
      go_wp2_with fail
      go_region_held3 (fun w' => w'.cell? ⟨cb, 4, none⟩ = some (.slice ea len ecap) ∧ w'.cell? ⟨cb, 3, none⟩ = some (.slice (some ⟨kb, 0, none⟩) n ck) ∧ w'.cell? ⟨kb, r, none⟩ = some (.slice (some ⟨g, 0, none⟩) n n)) (first | exact HS.out _ B3.out.dr | exact HS.out _ B4.out)
        (first
          | (go_at_call 37
             refine (HM3.out _ B3.out.dr).mono ?_
             rintro e w4 ⟨rfl, b4⟩
             have B4 := hid (B3.out.dr.tr b4)
             clear b4))
      all_goals
        go_wp2
        go_roundw
        case rel => exact ⟨k + 1, by omega, by go_num, B4.out⟩
        case measure => simp [intOf]; omega
    · have hkn : k = 3 := by omega
      subst hkn
      go_wp2
      go_ret
      exact ⟨rfl, HB.out⟩

theorem ev_vals {s : CS} (hI : Inv s) : ∀ e, e ∈ s.evs → -99 ≤ e.value ∧ e.value ≤ 99 := by
  intro e he
  obtain ⟨E, V, hC⟩ := hI.core
  obtain ⟨ds, d1, d2, d3⟩ := hC.evs
  rw [d3] at he
  obtain ⟨d, hd, rfl⟩ := List.mem_map.1 he
  obtain ⟨a, b⟩ := (d2 d).1 hd
  have hg := (hC.rep d.1 a).good d.1 d.2 b
  exact ⟨hg.v0, hg.v1⟩
theorem ev_len {s : CS} (hI : Inv s) : s.evs.length ≤ 27 := by
  obtain ⟨E, V, hC⟩ := hI.core
  exact evs_len hC.evs hC.n3 (fun r hr => (hC.rep r hr).bnd.nine r)
theorem meant_inv {s : CS} (hI : Inv s) {r : Nat} (hr : r < s.n) (c : Int) : meantTo s.evs (s.K r) c 4 = (s.p r).sumsTo c 4 := by
  obtain ⟨E, V, hC⟩ := hI.core
  have h := hC.rep r hr
  rw [h.is]
  exact meant_sums hC.named hC.evs (fun w hw => (hC.rep w hw).bnd.nine w) h.bnd hC.n3 (fun w hw => hC.tot r w hr hw) c 4
theorem reads_cl {w : World} {m : CM} {s : CS} (h : ClAt w m s) (hI : Inv s) {r : Nat} (hr : r < s.n) :
    Calls Tryz.prog 18 #[.pointer (some ⟨m.cb, 0, none⟩), .int .i64 r] w fun e w' => e = .returned (.bool true) ∧ Blw w w' := by
  obtain ⟨ea, ec, us, he, hE⟩ := h.evsIn hI
  exact reads_at (h.look hr) (by rw [h.cell, ← he]; rfl) hE h.n3 hr (ev_len hI) (ev_vals hI) (hI.pok hr) h.tab (meant_inv hI hr)
end Go.Proofs.YtalaldfgjgpacabGreatDoor

namespace Go.Proofs.YtalaldfgjgpacabGreatDoor
set_option linter.unusedVariables false
set_option linter.unusedSimpArgs false
open Go.RowKit
attribute [local go_sem ↓] Go.wp_at_zero Go.wp_at_succ

section
variable {w0 w : World} {cb xb kb n cx ck : Nat} {R xa : Array Value} {b : Nat → Nat} {ea : Option Addr} {ecap : Nat} {evs : List Ev} {us : Nat → Nat} {alb : Nat} {T : Vec} {p : Nat → Pc} {x : Nat → Ext} {K : Nat → Vec} {E : Hist} {V : Nat → Nat → Vec}

theorem SpAt.ship (h : SpAt w0 w cb xb kb n cx ck R xa b ea ecap evs us alb T p x) (hC : Core n p x K evs [] [] E V) {i j : Nat} (hi : i < n) (hj : j < n) (hij : i ≠ j) :
    Calls Tryz.prog 34 #[.pointer (some ⟨b i, 0, none⟩), .int .i64 j] w fun e w' => e = .returned (.tuple #[.string ⟨(shipL i (p i) (x i) j ((x i).ack j)).toArray⟩, .int .i64 0]) ∧ Blw w w' := by
  have ri := hC.rep i hi
  have hfit := ri.ok.fits ri.short
  have htl : ∀ c, c ≤ (x i).kept → (tailJ (x i).late c 0).ok := by
    intro c hc
    have hc' : c ≤ (x i).late.length := Nat.le_trans hc (Nat.min_le_right _ _)
    by_cases c0 : 0 < c
    · exact ((ri.tail0 hc' c0).fine ri.good).ok
    · rw [show c = 0 by omega, tailJ_end _ _ _ (Nat.le_refl _)]
      exact fine_empty.ok
  exact ship_yes (b i) i n j (p i) (x i) w _ hC.n3 hi hj (Ne.symm hij) ri.ok.fine.ok hfit.2.1 rfl (ri.ackle j) htl (h.rep i hi)

set_option maxRecDepth 100000 in
set_option maxHeartbeats 4000000 in
/-- There is nothing to tell. -/
theorem tells_quiet (h : SpAt w0 w cb xb kb n cx ck R xa b ea ecap evs us alb T p x) (hC : Core n p x K evs [] [] E V) {i j : Nat} (hi : i < n) (hj : j < n) (hij : i ≠ j) (hs : (x i).had = (x i).ack j) :
    Calls Tryz.prog 16 #[.pointer (some ⟨cb, 0, none⟩), .int .i64 i, .int .i64 j] w fun e w' => e = .returned (.tuple #[.bool true, .bool true]) ∧ Blw w w' := by
  have HS := hid (h.ship hC hi hj hij)
  rw [show shipL i (p i) (x i) j ((x i).ack j) = [] by unfold shipL; rw [if_pos hs]] at HS
  have u2 : w.cell? ⟨cb, 2, none⟩ = some (.slice (some ⟨xb, 0, none⟩) n cx) := by rw [blk_cell h.row]; exact h.r2
  have ux : w.cell? ⟨xb, i, none⟩ = some (.pointer (some ⟨b i, 0, none⟩)) := by rw [blk_cell h.xs]; exact h.xr i hi
  have hi0 : (0 : Int) ≤ (i : Int) := Int.natCast_nonneg _
  have hi1 : (i : Int) < (n : Int) := by omega
  clear h hC hs
  go_enter Tryz.func16, Tryz.ntmps16
  go_wp2_with fail
  refine HS.out.mono ?_
  rintro e w1 ⟨rfl, b1⟩
  have B1 := hid b1
  clear b1
  go_wp2
  go_ret2
  exact ⟨rfl, B1.out⟩

set_option maxRecDepth 100000 in
set_option maxHeartbeats 4000000 in
/-- Something is told, and answered. -/
theorem tells_send (h : SpAt w0 w cb xb kb n cx ck R xa b ea ecap evs us alb T p x) (hC : Core n p x K evs [] [] E V) {i j : Nat} (hi : i < n) (hj : j < n) (hij : i ≠ j) (hs : (x i).had ≠ (x i).ack j) :
    Calls Tryz.prog 16 #[.pointer (some ⟨cb, 0, none⟩), .int .i64 i, .int .i64 j] w fun e w' => e = .returned (.tuple #[.bool false, .bool true]) ∧
      ∃ (p' : Pc) (x' : Ext) (V' : Nat → Nat → Vec), SpAt w0 w' cb xb kb n cx ck R xa b ea ecap evs us alb T (upd p j p') (upd (upd x j x') i ((x i).setAck j (x i).had)) ∧ Core n (upd p j p') (upd (upd x j x') i ((x i).setAck j (x i).had)) (upd K j (Vec.sup (K j) (K i))) evs [] [] E V' ∧ (Vec.le (K i) (K j) → p' = p j ∧ x' = x j) := by
  obtain ⟨kd, D, p', x', V', q1, q2, q3, q4, q5, q6⟩ := hC.tell hi hj hij hs
  have HS := hid (h.ship hC hi hj hij)
  rw [q1] at HS
  obtain ⟨F, hF⟩ : ∃ F : World → Prop, F = fun w' => ∃ (p' : Pc) (x' : Ext) (V' : Nat → Nat → Vec), SpAt w0 w' cb xb kb n cx ck R xa b ea ecap evs us alb T (upd p j p') (upd (upd x j x') i ((x i).setAck j (x i).had)) ∧ Core n (upd p j p') (upd (upd x j x') i ((x i).setAck j (x i).had)) (upd K j (Vec.sup (K j) (K i))) evs [] [] E V' ∧ (Vec.le (K i) (K j) → p' = p j ∧ x' = x j) := ⟨_, rfl⟩
  rw [show (fun (e : Ending) (w' : World) => e = Ending.returned (.tuple #[.bool false, .bool true]) ∧ ∃ (p' : Pc) (x' : Ext) (V' : Nat → Nat → Vec), SpAt w0 w' cb xb kb n cx ck R xa b ea ecap evs us alb T (upd p j p') (upd (upd x j x') i ((x i).setAck j (x i).had)) ∧ Core n (upd p j p') (upd (upd x j x') i ((x i).setAck j (x i).had)) (upd K j (Vec.sup (K j) (K i))) evs [] [] E V' ∧ (Vec.le (K i) (K j) → p' = p j ∧ x' = x j)) = fun e w' => e = Ending.returned (.tuple #[.bool false, .bool true]) ∧ F w' by rw [hF]]
  have HF := hid hF
  obtain ⟨X, hX⟩ : ∃ X : ByteArray, X = ⟨(headL kd i j (x i).had ++ D.text).toArray⟩ := ⟨_, rfl⟩
  have hXs : (0 : Nat) < X.size := by rw [hX, ba_size]; unfold headL; simp
  obtain ⟨A, hA⟩ : ∃ A : ByteArray, A = ⟨(headL 65 j i (x i).had).toArray⟩ := ⟨_, rfl⟩
  rw [← hX] at HS q6
  rw [← hA] at q6
  have HTK := hid q6
  have ri := hC.rep i hi
  have n3 := hC.n3
  have HAK : Hid (∀ (wx : World), wx.heap[b i]? = some (.cells (repArr i n (p i) (x i)) 74) → Calls Tryz.prog 35 #[.pointer (some ⟨b i, 0, none⟩), .string A] wx fun e w' => e = .returned (.int .i64 0) ∧ RepTo (b i) i n (p i) ((x i).setAck j (x i).had) wx w') := by
    intro wx hx
    rw [hA]
    have hfm : forMe i n j i = true := by unfold forMe; simp; exact ⟨Ne.symm hij, hj⟩
    refine acked_head (b i) i n j i (x i).had (p i) (x i) 0 _ wx (by omega) (by omega) q2 q2 (by have := ri.ackle j; omega) ?_ hx
    rw [hfm]
    exact ⟨(fun h => by cases h), (fun _ h => by cases h), fun _ _ h => absurd h (Nat.lt_irrefl _), fun _ _ _ h => absurd h (by omega), fun _ _ _ _ => ⟨rfl, rfl⟩⟩
  have HQ := hid (And.intro q4 q5)
  have u2 : w.cell? ⟨cb, 2, none⟩ = some (.slice (some ⟨xb, 0, none⟩) n cx) := by rw [blk_cell h.row]; exact h.r2
  have ux : w.cell? ⟨xb, i, none⟩ = some (.pointer (some ⟨b i, 0, none⟩)) := by rw [blk_cell h.xs]; exact h.xr i hi
  have hi0 : (0 : Int) ≤ (i : Int) := Int.natCast_nonneg _
  have hi1 : (i : Int) < (n : Int) := by omega
  have hj0 : (0 : Int) ≤ (j : Int) := Int.natCast_nonneg _
  have hj1 : (j : Int) < (n : Int) := by omega
  have H := hid h
  have hXe : X.toList.isEmpty = false := by rw [hX, bs_toList]; unfold headL; rfl
  have hXt : (X.toList == []) = false := by rw [hX, bs_toList]; unfold headL; rfl
  clear h hC hs q1 q4 q5 q6 hF hX hA ri
  go_enter Tryz.func16, Tryz.ntmps16
  go_wp2_with fail
  refine HS.out.mono ?_
  rintro e w1 ⟨rfl, b1⟩
  have H1 := hid (H.out.blw b1)
  have v2 : w1.cell? ⟨cb, 2, none⟩ = some (.slice (some ⟨xb, 0, none⟩) n cx) := by rw [blk_cell H1.out.row]; exact H1.out.r2
  have vx : w1.cell? ⟨xb, j, none⟩ = some (.pointer (some ⟨b j, 0, none⟩)) := by rw [blk_cell H1.out.xs]; exact H1.out.xr j hj
  clear b1 u2 ux
  go_wp2_with fail
  refine (HTK.out _ _ H1.out.tab (H1.out.rep j hj)).mono ?_
  rintro e w2 ⟨rfl, r2⟩
  have H2 := hid (H1.out.to hj r2)
  clear r2 v2 vx
  go_wp2_with fail
  refine (HAK.out _ (by have := H2.out.rep i hi; rw [upd_ne _ _ hij, upd_ne _ _ hij] at this; exact this)).mono ?_
  rintro e w3 ⟨rfl, r3⟩
  have H3 := hid (H2.out.to hi r3)
  clear r3
  have FIN : Hid (F w3) := by
    show F _
    rw [HF.out]
    refine ⟨p', x', V', ?_, HQ.out.1, HQ.out.2⟩
    have := H3.out
    rw [show upd (upd p j p') i (p i) = upd p j p' by
      funext q
      by_cases c : q = i
      · subst c; rw [upd_at, upd_ne _ _ hij]
      · rw [upd_ne _ _ c]] at this
    exact this
  clear HF
  go_wp2
  go_ret2
  exact ⟨rfl, FIN.out⟩
end
end Go.Proofs.YtalaldfgjgpacabGreatDoor

namespace Go.Proofs.YtalaldfgjgpacabGreatDoor
set_option linter.unusedVariables false
set_option linter.unusedSimpArgs false

/-- What each knows of itself, of the first k. -/
def FillV (K : Nat → Vec) (k : Nat) : Vec := fun q => if q < k then K q q else 0
theorem fill_step (K : Nat → Vec) (k : Nat) : upd (FillV K k) k (K k k) = FillV K (k + 1) := by
  funext q
  unfold upd FillV
  by_cases c : q = k
  · subst c; rw [if_pos rfl, if_pos (by omega)]
  · rw [if_neg c]
    by_cases c2 : q < k
    · rw [if_pos c2, if_pos (by omega)]
    · rw [if_neg c2, if_neg (by omega)]

/-- So far it has been told. -/
structure Sp3 (n : Nat) (T : Vec) (rd i j : Nat) (p : Nat → Pc) (x : Nat → Ext) (K : Nat → Vec) (evs : List Ev) (E : Hist) (V : Nat → Nat → Vec) : Prop where
  core : Core n p x K evs [] [] E V
  out : ∀ q, n ≤ q → T q = 0
  diag : ∀ a, a < n → K a a = T a
  all : 1 ≤ rd → ∀ a, a < n → K a = T
  ack : 2 ≤ rd → ∀ a b, a < n → b < n → a ≠ b → (x a).ack b = (x a).had
  told : ∀ a b, a < n → b < n → a ≠ b → (a < i ∨ (a = i ∧ b < j)) → T a ≤ K b a
  akd : 1 ≤ rd → ∀ a b, a < n → b < n → a ≠ b → (a < i ∨ (a = i ∧ b < j)) → (x a).ack b = (x a).had

section
variable {n : Nat} {T : Vec} {rd i j : Nat} {p : Nat → Pc} {x : Nat → Ext} {K : Nat → Vec} {evs : List Ev} {E : Hist} {V : Nat → Nat → Vec}
theorem Sp3.same (h : Sp3 n T rd i i p x K evs E V) : Sp3 n T rd i (i + 1) p x K evs E V := by
  refine ⟨h.core, h.out, h.diag, h.all, h.ack, fun a b ha hb hab hc => h.told a b ha hb hab ?_, fun h1 a b ha hb hab hc => h.akd h1 a b ha hb hab ?_⟩
  · rcases hc with c | ⟨c1, c2⟩
    · exact .inl c
    · exact .inr ⟨c1, by omega⟩
  · rcases hc with c | ⟨c1, c2⟩
    · exact .inl c
    · exact .inr ⟨c1, by omega⟩
theorem Sp3.quiet (h : Sp3 n T rd i j p x K evs E V) (hi : i < n) (hj : j < n) (hij : i ≠ j) (hs : (x i).had = (x i).ack j) : Sp3 n T rd i (j + 1) p x K evs E V := by
  have hle := h.core.quiet hi hj hij hs
  refine ⟨h.core, h.out, h.diag, h.all, h.ack, fun a b ha hb hab hc => ?_, fun h1 a b ha hb hab hc => ?_⟩
  · by_cases c : a = i ∧ b = j
    · obtain ⟨rfl, rfl⟩ := c
      rw [← h.diag a ha]; exact hle a
    · refine h.told a b ha hb hab ?_
      rcases hc with c1 | ⟨c1, c2⟩
      · exact .inl c1
      · exact .inr ⟨c1, by have : b ≠ j := fun e => c ⟨c1, e⟩; omega⟩
  · by_cases c : a = i ∧ b = j
    · obtain ⟨rfl, rfl⟩ := c
      exact hs.symm
    · refine h.akd h1 a b ha hb hab ?_
      rcases hc with c1 | ⟨c1, c2⟩
      · exact .inl c1
      · exact .inr ⟨c1, by have : b ≠ j := fun e => c ⟨c1, e⟩; omega⟩
theorem Sp3.few (h : Sp3 n T rd i j p x K evs E V) (hi : i < n) (hj : j < n) (hij : i ≠ j) (hs : (x i).had ≠ (x i).ack j) : rd < 2 := by
  apply Classical.byContradiction
  intro c
  exact hs (h.ack (by omega) i j hi hj hij).symm
theorem Sp3.send (h : Sp3 n T rd i j p x K evs E V) (hi : i < n) (hj : j < n) (hij : i ≠ j) (hs : (x i).had ≠ (x i).ack j) {p' : Pc} {x' : Ext} {V' : Nat → Nat → Vec}
    (hC : Core n (upd p j p') (upd (upd x j x') i ((x i).setAck j (x i).had)) (upd K j (Vec.sup (K j) (K i))) evs [] [] E V') (hq : Vec.le (K i) (K j) → p' = p j ∧ x' = x j) :
    Sp3 n T rd i (j + 1) (upd p j p') (upd (upd x j x') i ((x i).setAck j (x i).had)) (upd K j (Vec.sup (K j) (K i))) evs E V' := by
  have h2 := h.few hi hj hij hs
  refine ⟨hC, h.out, fun a ha => ?_, fun h1 a ha => ?_, fun h1 => absurd h1 (by omega), fun a b ha hb hab hc => ?_, fun h1 a b ha hb hab hc => ?_⟩
  · by_cases c : a = j
    · subst c
      rw [upd_at, ← h.diag a ha]
      show max (K a a) (K i a) = K a a
      have := h.core.tot i a hi ha
      omega
    · rw [upd_ne _ _ c]; exact h.diag a ha
  · by_cases c : a = j
    · subst c
      rw [upd_at, h.all h1 a ha, h.all h1 i hi]
      exact Vec.sup_of_le (Vec.le.rfl' _)
    · rw [upd_ne _ _ c]; exact h.all h1 a ha
  · by_cases c : a = i ∧ b = j
    · obtain ⟨rfl, rfl⟩ := c
      rw [upd_at, ← h.diag a ha]
      exact Vec.le_sup_r (K b) (K a) a
    · have h0 := h.told a b ha hb hab (by
        rcases hc with c1 | ⟨c1, c2⟩
        · exact .inl c1
        · exact .inr ⟨c1, by have : b ≠ j := fun e => c ⟨c1, e⟩; omega⟩)
      by_cases c2 : b = j
      · subst c2
        rw [upd_at]; exact Nat.le_trans h0 (Vec.le_sup_l (K b) (K i) a)
      · rw [upd_ne _ _ c2]; exact h0
  · have hle : Vec.le (K i) (K j) := by rw [h.all h1 i hi, h.all h1 j hj]; exact Vec.le.rfl' _
    obtain ⟨rfl, rfl⟩ := hq hle
    rw [upd_self]
    by_cases ca : a = i
    · subst ca
      rw [upd_at]
      show (if b = j then (x a).had else (x a).ack b) = (x a).had
      by_cases cb : b = j
      · rw [if_pos cb]
      · rw [if_neg cb]
        refine h.akd h1 a b ha hb hab ?_
        rcases hc with c1 | ⟨c1, c2⟩
        · exact .inl c1
        · exact .inr ⟨c1, by omega⟩
    · rw [upd_ne _ _ ca]
      refine h.akd h1 a b ha hb hab ?_
      rcases hc with c1 | ⟨c1, c2⟩
      · exact .inl c1
      · exact absurd c1 ca
theorem Sp3.row (h : Sp3 n T rd i n p x K evs E V) : Sp3 n T rd (i + 1) 0 p x K evs E V := by
  refine ⟨h.core, h.out, h.diag, h.all, h.ack, fun a b ha hb hab hc => h.told a b ha hb hab ?_, fun h1 a b ha hb hab hc => h.akd h1 a b ha hb hab ?_⟩
  all_goals
    rcases hc with c | ⟨c1, c2⟩
    · by_cases c3 : a = i
      · exact .inr ⟨c3, hb⟩
      · exact .inl (by omega)
    · exact absurd c2 (Nat.not_lt_zero _)
theorem Sp3.eqT (h : Sp3 n T rd n 0 p x K evs E V) {a : Nat} (ha : a < n) : K a = T := by
  funext q
  by_cases c : q < n
  · by_cases c2 : q = a
    · subst c2; exact h.diag q ha
    · have h1 := h.told q a c ha c2 (.inl c)
      have h2 := h.core.tot a q ha c
      rw [h.diag q c] at h2
      omega
  · rw [(h.core.rep a ha).bnd.out q (by omega), h.out q (by omega)]
theorem Sp3.round (h : Sp3 n T rd n 0 p x K evs E V) : Sp3 n T (rd + 1) 0 0 p x K evs E V := by
  refine ⟨h.core, h.out, h.diag, fun _ a ha => h.eqT ha, fun h1 a b ha hb hab => h.akd (by omega) a b ha hb hab (.inl ha), fun a b ha hb hab hc => ?_, fun h1 a b ha hb hab hc => ?_⟩
  all_goals
    rcases hc with c | ⟨c1, c2⟩
    · exact absurd c (Nat.not_lt_zero _)
    · exact absurd c2 (Nat.not_lt_zero _)
theorem Core.bareL {wire acks : List Mail} (h : Core n p x K evs wire acks E V) : Core n p x K evs [] [] E V :=
  ⟨h.n1, h.n3, h.named, h.rep, h.tot, h.ack, (fun m hm => by cases hm), (fun m hm => by cases hm), h.evs⟩
end

section
variable {w0 w : World} {cb xb kb n cx ck : Nat} {R xa : Array Value} {b : Nat → Nat} {ea : Option Addr} {ecap : Nat} {evs : List Ev} {us : Nat → Nat} {alb : Nat} {T : Vec} {p : Nat → Pc} {x : Nat → Ext}
theorem SpAt.look (h : SpAt w0 w cb xb kb n cx ck R xa b ea ecap evs us alb T p x) {r : Nat} (hr : r < n) (hk : w.cell? ⟨kb, r, none⟩ = some (.slice (some ⟨alb, 0, none⟩) n n)) : LookR w cb xb kb cx ck (b r) alb n r (p r) (x r) T :=
  ⟨by rw [blk_cell h.row]; exact h.r0, by rw [blk_cell h.row]; exact h.r2, by rw [blk_cell h.row]; exact h.r3, by rw [blk_cell h.xs]; exact h.xr r hr, hk, h.al, h.rep r hr⟩
end

/-- A cluster that has been run, as Spreads goes on with it. -/
theorem RunAt.sp {J : CS → Prop} {w w3 w4 : World} {m : CM} {s : CS} {n : Nat} {mode : Int} {k alb : Nat} {T : Vec} (h : RunAt J w w3 m s n mode k) (ht : Tab Tryz.prog w) (hb : Blw w3 w4) (hal : w4.heap[alb]? = some (.cells (intsV (vecL n T)) 3)) :
    ∃ (ea : Option Addr) (ecap : Nat) (us : Nat → Nat), SpAt w w4 w.heap.size m.xb m.kb n m.cx m.ck (rowA m s) m.xa m.b ea ecap s.evs us alb T s.p s.x := by
  have hc := h.cl.blw hb
  obtain ⟨ea, ec, us, he, hE⟩ := hc.evsIn h.ran.inv
  have hn := h.hn
  subst hn
  refine ⟨ea, ec, us, by rw [← h.cb]; exact hc.row, rfl, rfl, rfl, by rw [← he]; rfl, hc.xs.xs, hc.xs.xr, hc.xs.rep, hc.xs.bne, hal, ⟨m.ka, hc.ks.kn, ?_⟩, hE, fun eg hea => ?_, fun r hr => h.own _ (hc.xs.ob r hr), h.own _ hc.ks.ok, hc.tab, h.bl.tr hb, fun g hg => ht.lt g hg⟩
  · have h1 := hc.n1
    have := hc.ks.kr (s.n - 1) (by omega)
    have := (Array.getElem?_eq_some_iff.1 this).1
    omega
  · refine ownsRow_blk hc.ev.o ?_
    rw [he, hea]; rfl
end Go.Proofs.YtalaldfgjgpacabGreatDoor
