import Derived.Test.YtalaldfgjgpacaaDoorWH
import Derived.Test.YtalaldfgjgpacaaDoorWI
namespace Go.Proofs.YtalaldfgjgpacaaDoor
set_option linter.unusedVariables false
set_option linter.unusedSimpArgs false
open Go.RowKit

/-- What holds between two steps. -/
def SInv (w w1 : World) (me n m : Nat) (wr : World) : Prop :=
  ∃ (p : Pc) (x : Ext), p.ok ∧ (x.had ≤ m ∧ x.log.length ≤ 400 * m) ∧ wr.heap[w1.heap.size]? = some (.cells (repArr me n p x) 67) ∧ wr.heap[w1.heap.size + 1]? = some (.cells #[.pointer (some ⟨w1.heap.size, 0, none⟩)] 24) ∧ wr.heap[w1.heap.size + 1 + 1]? = some (.cells #[.slice none 0 0] 29) ∧
    (∃ said err last lg st old n1 n2 n3 cl tok, wr.heap[w1.heap.size + 1 + 1 + 1]? = some (.cells (clArr n (.slice (some ⟨w1.heap.size + 1, 0, none⟩) 1 1) (.slice (some ⟨w1.heap.size + 1 + 1, 0, none⟩) 1 1) said err last lg st old n1 n2 n3 cl tok) 49)) ∧ Blw w wr

theorem Bx.blw1 {c : Nat} {a0 a w' : World} (h : Bx c a w') (h0 : Blw a0 a) (hc : a0.heap.size ≤ c) : Blw a0 w' :=
  ⟨h.os.trans h0.os, h.tape.trans h0.tape, h.output.trans h0.output, Nat.le_trans h0.sz h.size, fun k hk => (h.block k (Nat.lt_of_lt_of_le hk h0.sz) (by omega)).trans (h0.block k hk)⟩
theorem B2.blw1 {b c : Nat} {a0 a w' : World} (h : B2 b c a w') (h0 : Blw a0 a) (hb : a0.heap.size ≤ b) (hc : a0.heap.size ≤ c) : Blw a0 w' :=
  ⟨h.os.trans h0.os, h.tape.trans h0.tape, h.output.trans h0.output, Nat.le_trans h0.sz h.size, fun k hk => (h.block k (Nat.lt_of_lt_of_le hk h0.sz) (by omega) (by omega)).trans (h0.block k hk)⟩
theorem st_len (p : Pc) (n : Nat) (hn : n ≤ 3) : (p.digsTo n ++ [59] ++ p.entTo 12).length ≤ 10000 := by
  have := digsTo_len p n
  have := entTo_len p 12
  simp; omega

set_option maxRecDepth 100000 in
set_option maxHeartbeats 400000 in
theorem begins_nil (y : List UInt8) (w : World) (hx : y.length ≤ 10000) :
    Calls Tryd.prog 20 #[.string ⟨y.toArray⟩, .string ⟨#[]⟩] w fun e w' => e = .returned (.bool true) ∧ w' = w := begins_yes [] y w hx

theorem SInv.blw {w w1 : World} {me n m : Nat} {wr : World} (h : SInv w w1 me n m wr) : Blw w wr := by
  obtain ⟨p, x, _, _, _, _, _, _, hb⟩ := h; exact hb
theorem SInv.up {w w1 : World} {me n m : Nat} {wr : World} (h : SInv w w1 me n m wr) : SInv w w1 me n (m + 1) wr := by
  obtain ⟨p, x, h0, hx, r⟩ := h
  exact ⟨p, x, h0, ⟨by omega, by omega⟩, r⟩
theorem SInv.al {w w1 : World} {me n m : Nat} {wr : World} (h : SInv w w1 me n m wr) (o : Obj) : SInv w w1 me n m (wr.alloc o) := by
  obtain ⟨p, x, h0, hx, h1, h2, h3, ⟨a, b, c, d, e, f, g, i, j, k, l, h4⟩, hb⟩ := h
  exact ⟨p, x, h0, hx, hp_old _ (lt_of_blk h1) h1, hp_old _ (lt_of_blk h2) h2, hp_old _ (lt_of_blk h3) h3, ⟨a, b, c, d, e, f, g, i, j, k, l, hp_old _ (lt_of_blk h4) h4⟩, hb.al _⟩
theorem SInv.start {w w1 : World} {me n : Nat} (hb : Blw w w1) : SInv w w1 me n 0 ((((w1.alloc (.cells (repArr me n Pc.empty Ext.zero) 67)).alloc (.cells #[.pointer (some ⟨w1.heap.size, 0, none⟩)] 24)).alloc (.cells #[.slice none 0 0] 29)).alloc
    (.cells #[.int .i64 n, .int .i64 0, .slice (some ⟨w1.heap.size + 1, 0, none⟩) 1 1, .slice (some ⟨w1.heap.size + 1 + 1, 0, none⟩) 1 1, .slice none 0 0, .slice none 0 0, .slice none 0 0, .slice none 0 0, .slice none 0 0, .string ⟨#[]⟩, .int .i64 0, .int .i64 0, .string ⟨#[]⟩, .string ⟨#[]⟩, .slice none 0 0, .int .i64 0, .int .i64 0, .int .i64 0, .int .i64 0, .string ⟨#[]⟩] 49)) := by
  refine ⟨Pc.empty, Ext.zero, ok_empty, ⟨Nat.zero_le _, Nat.zero_le _⟩, ?_, ?_, ?_, ⟨[], 0, 0, [], [], .slice none 0 0, 0, 0, 0, 0, [], ?_⟩, (((hb.al _).al _).al _).al _⟩
  · exact hp_old _ (by simp; omega) (hp_old _ (by simp; omega) (hp_old _ (by simp) (hp_new _ _)))
  · exact hp_old _ (by simp) (hp_old _ (by simp) (by simpa using hp_new (w1.alloc _) _))
  · exact hp_old _ (by simp) (by simpa using hp_new ((w1.alloc _).alloc _) _)
  · have := hp_new (((w1.alloc (.cells (repArr me n Pc.empty Ext.zero) 67)).alloc (.cells #[.pointer (some ⟨w1.heap.size, 0, none⟩)] 24)).alloc (.cells #[.slice none 0 0] 29)) (.cells (clArr n (.slice (some ⟨w1.heap.size + 1, 0, none⟩) 1 1) (.slice (some ⟨w1.heap.size + 1 + 1, 0, none⟩) 1 1) [] 0 0 [] [] (.slice none 0 0) 0 0 0 0 []) 49)
    simpa [clArr] using this

set_option maxRecDepth 100000 in
set_option maxHeartbeats 2000000 in
theorem strict_walk (ops : Nat → OpR) (len cap sb off me n : Nat) (w : World) (hl : len * 64 ≤ 140737488351232) (hs : ∀ i, i < len → (ops i).s.size ≤ 140737488355328) (h : Lies ops len sb off w) (hsb : sb < w.heap.size) (ht : Tab Tryd.prog w) (hn : n ≤ 3) (hme : me < n) :
    Calls Tryd.prog 4 #[.slice (some ⟨sb, off, none⟩) len cap, .int .i64 me, .int .i64 n] w fun e w' => e = .returned (.bool true) ∧ Blw w w' := by
  have HST := hid (stands_any w ht)
  have HSM := hid (fun wx hx => small_any ops len cap sb off wx (by unfold maxLen; omega) hs hx)
  have HNW := hid (fun wx => new_yes me n wx hn hme)
  have HL := hid h
  have HT := hid ht
  clear h ht
  go_enter Tryd.func4, Tryd.ntmps4
  go_wp2_with fail
  refine HST.out.mono ?_
  rintro e w1 ⟨rfl, b1⟩
  have B1 := hid b1
  clear b1
  go_wp2_with fail
  refine (HSM.out _ (HL.out.on (B1.out.bk sb hsb))).mono ?_
  rintro e w2 ⟨he, hw2⟩
  subst w2
  rcases he with ⟨rfl, hlen⟩ | rfl
  · go_wp2_with fail
    refine (HNW.out _).mono ?_
    rintro e w3 ⟨rfl, hw3⟩
    subst w3
    go_wp2_with fail
    go_loopw [9, 11] (fun ee i wr => ∃ (k : Nat) (e : Int), k ≤ len ∧ i = .int .i64 k ∧ ee = .int .i64 e ∧ SInv w w1 me n k wr) (fun _ i _ => len - (intOf i).toNat)
    case atStart => exact ⟨0, 0, by omega, rfl, rfl, SInv.start B1.out⟩
    case round =>
      obtain ⟨k, e0, hk, rfl, rfl, hI⟩ := hrel
      have HI := hid hI
      clear hI
      by_cases hlt : k < len
      · obtain ⟨c0, c1, c2, c3, c4, c5, c6⟩ := (HL.out.on (HI.out.blw.bk sb hsb)) k hlt
        have hsk := hs k hlt
        by_cases g3 : (ops k).kind < 3
        · have d3 : decide ((ops k).kind < 3) = true := by simpa using g3
          go_wp2_with fail
          go_roundw
          case rel => exact ⟨k + 1, e0, by omega, by go_num, rfl, (HI.out.al _).up⟩
          case measure => simp [intOf]; omega
        · have d3 : decide ((ops k).kind < 3) = false := by simpa using g3
          by_cases g7 : 7 < (ops k).kind
          · have d7 : decide (7 < (ops k).kind) = true := by simpa using g7
            go_wp2_with fail
            go_roundw
            case rel => exact ⟨k + 1, e0, by omega, by go_num, rfl, (HI.out.al _).up⟩
            case measure => simp [intOf]; omega
          · have d7 : decide (7 < (ops k).kind) = false := by simpa using g7
            obtain ⟨p, x, hp, ⟨hxh, hxl⟩, i0, i1, i2, ⟨said, err, last, lg, st, old, n1, n2, n3, cl, tok, i3⟩, iB⟩ := HI.out
            have hxs : x.small := ⟨by omega, by omega⟩
            have zo0 := hp_new wr (.cells #[.int .i64 (ops k).kind, .int .i64 (ops k).r, .int .i64 (ops k).t, .int .i64 (ops k).a, .int .i64 (ops k).b, .int .i64 (ops k).c, .string (ops k).s] 31)
            have s3 := lt_of_blk i3
            have HA := hid (ahead_any (w1.heap.size + 1 + 1 + 1) (w1.heap.size + 1) (w1.heap.size + 1 + 1) w1.heap.size me n p x _ said err last lg st old n1 n2 n3 cl tok hn hp (hp_old (.cells #[.int .i64 (ops k).kind, .int .i64 (ops k).r, .int .i64 (ops k).t, .int .i64 (ops k).a, .int .i64 (ops k).b, .int .i64 (ops k).c, .string (ops k).s] 31) s3 i3) (hp_old _ (lt_of_blk i1) i1) (hp_old _ (lt_of_blk i2) i2) (hp_old _ (lt_of_blk i0) i0) (by omega) (by omega) (by omega))
            have II := hid (And.intro (hp_old (.cells #[.int .i64 (ops k).kind, .int .i64 (ops k).r, .int .i64 (ops k).t, .int .i64 (ops k).a, .int .i64 (ops k).b, .int .i64 (ops k).c, .string (ops k).s] 31) (lt_of_blk i0) i0) (And.intro (hp_old (.cells #[.int .i64 (ops k).kind, .int .i64 (ops k).r, .int .i64 (ops k).t, .int .i64 (ops k).a, .int .i64 (ops k).b, .int .i64 (ops k).c, .string (ops k).s] 31) (lt_of_blk i1) i1) (And.intro (hp_old (.cells #[.int .i64 (ops k).kind, .int .i64 (ops k).r, .int .i64 (ops k).t, .int .i64 (ops k).a, .int .i64 (ops k).b, .int .i64 (ops k).c, .string (ops k).s] 31) (lt_of_blk i2) i2) (And.intro zo0 (iB.al (.cells #[.int .i64 (ops k).kind, .int .i64 (ops k).r, .int .i64 (ops k).t, .int .i64 (ops k).a, .int .i64 (ops k).b, .int .i64 (ops k).c, .string (ops k).s] 31))))))
            clear i0 i1 i2 i3 iB zo0
            go_wp2_with fail
            refine HA.out.mono ?_
            rintro e w2 ⟨rfl, hB, old', hC⟩
            have z0 := hB.keep II.out.1 (by omega)
            have z1 := hB.keep II.out.2.1 (by omega)
            have z2 := hB.keep II.out.2.2.1 (by omega)
            have zo := hB.keep II.out.2.2.2.1 (by omega)
            have zB := hB.blw1 II.out.2.2.2.2 (by have := B1.out.sz; omega)
            have o0 : w2.cell? ⟨wr.heap.size, 0, none⟩ = some (.int .i64 (ops k).kind) := blk_cell zo 0
            have o1 : w2.cell? ⟨wr.heap.size, 1, none⟩ = some (.int .i64 (ops k).r) := blk_cell zo 1
            have o2 : w2.cell? ⟨wr.heap.size, 2, none⟩ = some (.int .i64 (ops k).t) := blk_cell zo 2
            have o3 : w2.cell? ⟨wr.heap.size, 3, none⟩ = some (.int .i64 (ops k).a) := blk_cell zo 3
            have o4 : w2.cell? ⟨wr.heap.size, 4, none⟩ = some (.int .i64 (ops k).b) := blk_cell zo 4
            have o5 : w2.cell? ⟨wr.heap.size, 5, none⟩ = some (.int .i64 (ops k).c) := blk_cell zo 5
            have o6 : w2.cell? ⟨wr.heap.size, 6, none⟩ = some (.string (ops k).s) := blk_cell zo 6
            clear hB zo c0 c1 c2 c3 c4 c5 c6
            by_cases gk : (ops k).kind = 3
            · have q3 : ((ops k).kind == 3) = true := by simp [gk]
              have HCL := hid (add_out w1.heap.size me n p x (ops k).s (ops k).a (ops k).b (ops k).c w2 hn hme (by unfold maxLen; omega) hp z0 hxs (HT.out.blw zB))
              have FR := hid (And.intro z0 (And.intro z1 (And.intro z2 (And.intro hC zB))))
              clear z0 z1 z2 hC zB gk
              go_wp2_with fail
              refine HCL.out.mono ?_
              rintro e w3 ⟨p', x', ee, tx, rfl, ho, ⟨hx1, hx2, hx3⟩, hr⟩
              have HXB : Hid (x'.had ≤ k + 1 ∧ x'.log.length ≤ 400 * (k + 1)) := ⟨by omega, by omega⟩
              have k0 := hr.1
              have k1 := hr.2.keep FR.out.2.1 (by omega)
              have k2 := hr.2.keep FR.out.2.2.1 (by omega)
              have kB := hr.2.blw1 FR.out.2.2.2.2 (by have := B1.out.sz; omega)
              obtain ⟨l, hl0, k3⟩ : ∃ l : List UInt8, l = [] ∧ w3.heap[w1.heap.size + 1 + 1 + 1]? = some (.cells (clArr n (.slice (some ⟨w1.heap.size + 1, 0, none⟩) 1 1) (.slice (some ⟨w1.heap.size + 1 + 1, 0, none⟩) 1 1) l 0 0 x.log (p.digsTo n ++ [59] ++ p.entTo 12) old' 0 0 0 (-1) tok) 49) := ⟨[], rfl, hr.2.keep FR.out.2.2.2.1 (by omega)⟩
              have hlm : ee ≠ 0 → l = [] := fun _ => hl0
              clear hl0 hr o0 o1 o2 o3 o4 o5 o6
              rcases ho.2 with ⟨hee, hpp, htx⟩ | ⟨hee, htx⟩
              · have hl0 := hlm hee
                subst htx
                subst hl0
                subst hpp
                have hxx := hx1 hee
                subst hxx
                clear hx1 hx2 hx3
                have HSL := hid (still_any (w1.heap.size + 1 + 1 + 1) (w1.heap.size + 1) w1.heap.size me n (.slice (some ⟨w1.heap.size + 1 + 1, 0, none⟩) 1 1) p' p' x' x' w3 [] 0 0 old' 0 0 0 (-1) tok hn ho.1 k3 k1 k0)
                simp only [beq_self_eq_true, Bool.and_self] at HSL
                have HSA := hid (fun wx hx => state_any (xt := x') w1.heap.size me n p' wx hn ho.1 hx)
                have el := st_len p' n hn
                have HBG := hid (fun wx => begins_nil (p'.digsTo n ++ [59] ++ p'.entTo 12) wx el)
                generalize p'.digsTo n ++ [59] ++ p'.entTo 12 = stx at *
                have hne : (ee != 0) = true := by simp [hee]
                have heq : (ee == 0) = false := by simp [hee]
                have HO := hid (And.intro ho.1 (And.intro k0 (And.intro k1 (And.intro k2 (And.intro k3 kB)))))
                clear ho hlm k0 k1 k2 k3 kB hee el
                go_wp2_with fail
                refine HSL.out.mono ?_
                rintro e w4 ⟨rfl, b4⟩
                have c9 : w4.cell? ⟨w1.heap.size + 1 + 1 + 1, 9, none⟩ = some (.string ⟨#[]⟩) := by rw [blk_cell (b4.bk' HO.out.2.2.2.2.1)]; rfl
                have B4 := hid b4
                clear b4
                go_wp2_with fail
                refine (HSA.out _ (B4.out.bk' HO.out.2.1)).mono ?_
                rintro e w5 ⟨rfl, b5⟩
                have B5 := hid (B4.out.tr b5)
                clear b5 c9
                go_wp2_with fail
                refine (HBG.out _).mono ?_
                rintro e w6 ⟨rfl, hw6⟩
                subst w6
                go_wp2
                go_roundw
                case rel => exact ⟨k + 1, ee, by omega, by go_num, rfl, ⟨p', x', HO.out.1, HXB.out, B5.out.bk' HO.out.2.1, B5.out.bk' HO.out.2.2.1, B5.out.bk' HO.out.2.2.2.1, ⟨_, _, _, _, _, _, _, _, _, _, _, B5.out.bk' HO.out.2.2.2.2.1⟩, HO.out.2.2.2.2.2.tr B5.out⟩⟩
                case measure => simp [intOf]; omega
              · clear hx1 hx2 hx3
                subst hee
                subst htx
                have HSL := hid (still_any (w1.heap.size + 1 + 1 + 1) (w1.heap.size + 1) w1.heap.size me n (.slice (some ⟨w1.heap.size + 1 + 1, 0, none⟩) 1 1) p' p x' x w3 l 0 0 old' 0 0 0 (-1) tok hn ho.1 k3 k1 k0)
                have HSA := hid (fun wx hx => state_any (xt := x') w1.heap.size me n p' wx hn ho.1 hx)
                have el := st_len p' n hn
                rw [List.append_assoc] at HSA el
                have HBG := hid (fun wx => begins_yes (p'.digsTo n) ([59] ++ p'.entTo 12) wx el)
                have tl := digsTo_len p' n
                generalize ((x'.log == x.log) && (p'.digsTo n ++ [59] ++ p'.entTo 12 == p.digsTo n ++ [59] ++ p.entTo 12)) = sm at *
                generalize p'.digsTo n = dg at *
                generalize [59] ++ p'.entTo 12 = et at *
                have HO := hid (And.intro ho.1 (And.intro k0 (And.intro k1 (And.intro k2 (And.intro k3 kB)))))
                clear ho hlm k0 k1 k2 k3 kB el
                go_wp2_with fail
                refine HSL.out.mono ?_
                rintro e w4 ⟨rfl, b4⟩
                have B4 := hid b4
                clear b4
                go_wp2_with fail
                refine (HSA.out _ (B4.out.bk' HO.out.2.1)).mono ?_
                rintro e w5 ⟨rfl, b5⟩
                have B5 := hid (B4.out.tr b5)
                clear b5
                go_wp2_with fail
                refine (HBG.out _).mono ?_
                rintro e w6 ⟨rfl, hw6⟩
                subst w6
                go_wp2
                go_roundw
                case rel => exact ⟨k + 1, 0, by omega, by go_num, rfl, ⟨p', x', HO.out.1, HXB.out, B5.out.bk' HO.out.2.1, B5.out.bk' HO.out.2.2.1, B5.out.bk' HO.out.2.2.2.1, ⟨_, _, _, _, _, _, _, _, _, _, _, B5.out.bk' HO.out.2.2.2.2.1⟩, HO.out.2.2.2.2.2.tr B5.out⟩⟩
                case measure => simp [intOf]; omega
            · by_cases gk : (ops k).kind = 4
              · have q3 : ((ops k).kind == 3) = false := by simp [gk]
                have q4 : ((ops k).kind == 4) = true := by simp [gk]
                have HCL := hid (set_out w1.heap.size me n p x (ops k).s (ops k).a (ops k).b (ops k).c w2 hn hme (by unfold maxLen; omega) hp z0 hxs (HT.out.blw zB))
                have FR := hid (And.intro z0 (And.intro z1 (And.intro z2 (And.intro hC zB))))
                clear z0 z1 z2 hC zB gk
                go_wp2_with fail
                refine HCL.out.mono ?_
                rintro e w3 ⟨p', x', ee, tx, rfl, ho, ⟨hx1, hx2, hx3⟩, hr⟩
                have HXB : Hid (x'.had ≤ k + 1 ∧ x'.log.length ≤ 400 * (k + 1)) := ⟨by omega, by omega⟩
                have k0 := hr.1
                have k1 := hr.2.keep FR.out.2.1 (by omega)
                have k2 := hr.2.keep FR.out.2.2.1 (by omega)
                have kB := hr.2.blw1 FR.out.2.2.2.2 (by have := B1.out.sz; omega)
                obtain ⟨l, hl0, k3⟩ : ∃ l : List UInt8, l = [] ∧ w3.heap[w1.heap.size + 1 + 1 + 1]? = some (.cells (clArr n (.slice (some ⟨w1.heap.size + 1, 0, none⟩) 1 1) (.slice (some ⟨w1.heap.size + 1 + 1, 0, none⟩) 1 1) l 0 0 x.log (p.digsTo n ++ [59] ++ p.entTo 12) old' 0 0 0 (-1) tok) 49) := ⟨[], rfl, hr.2.keep FR.out.2.2.2.1 (by omega)⟩
                have hlm : ee ≠ 0 → l = [] := fun _ => hl0
                clear hl0 hr o0 o1 o2 o3 o4 o5 o6
                rcases ho.2 with ⟨hee, hpp, htx⟩ | ⟨hee, htx⟩
                · have hl0 := hlm hee
                  subst htx
                  subst hl0
                  subst hpp
                  have hxx := hx1 hee
                  subst hxx
                  clear hx1 hx2 hx3
                  have HSL := hid (still_any (w1.heap.size + 1 + 1 + 1) (w1.heap.size + 1) w1.heap.size me n (.slice (some ⟨w1.heap.size + 1 + 1, 0, none⟩) 1 1) p' p' x' x' w3 [] 0 0 old' 0 0 0 (-1) tok hn ho.1 k3 k1 k0)
                  simp only [beq_self_eq_true, Bool.and_self] at HSL
                  have HSA := hid (fun wx hx => state_any (xt := x') w1.heap.size me n p' wx hn ho.1 hx)
                  have el := st_len p' n hn
                  have HBG := hid (fun wx => begins_nil (p'.digsTo n ++ [59] ++ p'.entTo 12) wx el)
                  generalize p'.digsTo n ++ [59] ++ p'.entTo 12 = stx at *
                  have hne : (ee != 0) = true := by simp [hee]
                  have heq : (ee == 0) = false := by simp [hee]
                  have HO := hid (And.intro ho.1 (And.intro k0 (And.intro k1 (And.intro k2 (And.intro k3 kB)))))
                  clear ho hlm k0 k1 k2 k3 kB hee el
                  go_wp2_with fail
                  refine HSL.out.mono ?_
                  rintro e w4 ⟨rfl, b4⟩
                  have c9 : w4.cell? ⟨w1.heap.size + 1 + 1 + 1, 9, none⟩ = some (.string ⟨#[]⟩) := by rw [blk_cell (b4.bk' HO.out.2.2.2.2.1)]; rfl
                  have B4 := hid b4
                  clear b4
                  go_wp2_with fail
                  refine (HSA.out _ (B4.out.bk' HO.out.2.1)).mono ?_
                  rintro e w5 ⟨rfl, b5⟩
                  have B5 := hid (B4.out.tr b5)
                  clear b5 c9
                  go_wp2_with fail
                  refine (HBG.out _).mono ?_
                  rintro e w6 ⟨rfl, hw6⟩
                  subst w6
                  go_wp2
                  go_roundw
                  case rel => exact ⟨k + 1, ee, by omega, by go_num, rfl, ⟨p', x', HO.out.1, HXB.out, B5.out.bk' HO.out.2.1, B5.out.bk' HO.out.2.2.1, B5.out.bk' HO.out.2.2.2.1, ⟨_, _, _, _, _, _, _, _, _, _, _, B5.out.bk' HO.out.2.2.2.2.1⟩, HO.out.2.2.2.2.2.tr B5.out⟩⟩
                  case measure => simp [intOf]; omega
                · clear hx1 hx2 hx3
                  subst hee
                  subst htx
                  have HSL := hid (still_any (w1.heap.size + 1 + 1 + 1) (w1.heap.size + 1) w1.heap.size me n (.slice (some ⟨w1.heap.size + 1 + 1, 0, none⟩) 1 1) p' p x' x w3 l 0 0 old' 0 0 0 (-1) tok hn ho.1 k3 k1 k0)
                  have HSA := hid (fun wx hx => state_any (xt := x') w1.heap.size me n p' wx hn ho.1 hx)
                  have el := st_len p' n hn
                  rw [List.append_assoc] at HSA el
                  have HBG := hid (fun wx => begins_yes (p'.digsTo n) ([59] ++ p'.entTo 12) wx el)
                  have tl := digsTo_len p' n
                  generalize ((x'.log == x.log) && (p'.digsTo n ++ [59] ++ p'.entTo 12 == p.digsTo n ++ [59] ++ p.entTo 12)) = sm at *
                  generalize p'.digsTo n = dg at *
                  generalize [59] ++ p'.entTo 12 = et at *
                  have HO := hid (And.intro ho.1 (And.intro k0 (And.intro k1 (And.intro k2 (And.intro k3 kB)))))
                  clear ho hlm k0 k1 k2 k3 kB el
                  go_wp2_with fail
                  refine HSL.out.mono ?_
                  rintro e w4 ⟨rfl, b4⟩
                  have B4 := hid b4
                  clear b4
                  go_wp2_with fail
                  refine (HSA.out _ (B4.out.bk' HO.out.2.1)).mono ?_
                  rintro e w5 ⟨rfl, b5⟩
                  have B5 := hid (B4.out.tr b5)
                  clear b5
                  go_wp2_with fail
                  refine (HBG.out _).mono ?_
                  rintro e w6 ⟨rfl, hw6⟩
                  subst w6
                  go_wp2
                  go_roundw
                  case rel => exact ⟨k + 1, 0, by omega, by go_num, rfl, ⟨p', x', HO.out.1, HXB.out, B5.out.bk' HO.out.2.1, B5.out.bk' HO.out.2.2.1, B5.out.bk' HO.out.2.2.2.1, ⟨_, _, _, _, _, _, _, _, _, _, _, B5.out.bk' HO.out.2.2.2.2.1⟩, HO.out.2.2.2.2.2.tr B5.out⟩⟩
                  case measure => simp [intOf]; omega
              · have q3 : ((ops k).kind == 3) = false := by simp; omega
                have q4 : ((ops k).kind == 4) = false := by simp; omega
                have HCL := hid (asks_any (w1.heap.size + 1 + 1 + 1) (w1.heap.size + 1) w1.heap.size me n (.slice (some ⟨w1.heap.size + 1 + 1, 0, none⟩) 1 1) p x hxs w2 0 x.log (p.digsTo n ++ [59] ++ p.entTo 12) old' 0 0 0 (-1) tok (ops k) hn hme (by unfold maxLen; omega) hp (HT.out.blw zB) hC z1 z0 (by omega) (by omega))
                have FR := hid (And.intro z0 (And.intro z1 (And.intro z2 (And.intro hC zB))))
                clear z0 z1 z2 hC zB gk
                go_wp2_with fail
                refine HCL.out.mono ?_
                rintro e w3 ⟨p', x', ee, tx, l, rfl, ho, hlm, ⟨hx1, hx2, hx3⟩, k0, k3, hr⟩
                have HXB : Hid (x'.had ≤ k + 1 ∧ x'.log.length ≤ 400 * (k + 1)) := ⟨by omega, by omega⟩
                have k1 := hr.keep FR.out.2.1 (by omega) (by omega)
                have k2 := hr.keep FR.out.2.2.1 (by omega) (by omega)
                have kB := hr.blw1 FR.out.2.2.2.2 (by have := B1.out.sz; omega) (by have := B1.out.sz; omega)
                clear hr o0 o1 o2 o3 o4 o5 o6
                rcases ho.2 with ⟨hee, hpp, htx⟩ | ⟨hee, htx⟩
                · have hl0 := hlm hee
                  subst htx
                  subst hl0
                  subst hpp
                  have hxx := hx1 hee
                  subst hxx
                  clear hx1 hx2 hx3
                  have HSL := hid (still_any (w1.heap.size + 1 + 1 + 1) (w1.heap.size + 1) w1.heap.size me n (.slice (some ⟨w1.heap.size + 1 + 1, 0, none⟩) 1 1) p' p' x' x' w3 [] 0 0 old' 0 0 0 (-1) tok hn ho.1 k3 k1 k0)
                  simp only [beq_self_eq_true, Bool.and_self] at HSL
                  have HSA := hid (fun wx hx => state_any (xt := x') w1.heap.size me n p' wx hn ho.1 hx)
                  have el := st_len p' n hn
                  have HBG := hid (fun wx => begins_nil (p'.digsTo n ++ [59] ++ p'.entTo 12) wx el)
                  generalize p'.digsTo n ++ [59] ++ p'.entTo 12 = stx at *
                  have hne : (ee != 0) = true := by simp [hee]
                  have heq : (ee == 0) = false := by simp [hee]
                  have HO := hid (And.intro ho.1 (And.intro k0 (And.intro k1 (And.intro k2 (And.intro k3 kB)))))
                  clear ho hlm k0 k1 k2 k3 kB hee el
                  go_wp2_with fail
                  refine HSL.out.mono ?_
                  rintro e w4 ⟨rfl, b4⟩
                  have c9 : w4.cell? ⟨w1.heap.size + 1 + 1 + 1, 9, none⟩ = some (.string ⟨#[]⟩) := by rw [blk_cell (b4.bk' HO.out.2.2.2.2.1)]; rfl
                  have B4 := hid b4
                  clear b4
                  go_wp2_with fail
                  refine (HSA.out _ (B4.out.bk' HO.out.2.1)).mono ?_
                  rintro e w5 ⟨rfl, b5⟩
                  have B5 := hid (B4.out.tr b5)
                  clear b5 c9
                  go_wp2_with fail
                  refine (HBG.out _).mono ?_
                  rintro e w6 ⟨rfl, hw6⟩
                  subst w6
                  go_wp2
                  go_roundw
                  case rel => exact ⟨k + 1, ee, by omega, by go_num, rfl, ⟨p', x', HO.out.1, HXB.out, B5.out.bk' HO.out.2.1, B5.out.bk' HO.out.2.2.1, B5.out.bk' HO.out.2.2.2.1, ⟨_, _, _, _, _, _, _, _, _, _, _, B5.out.bk' HO.out.2.2.2.2.1⟩, HO.out.2.2.2.2.2.tr B5.out⟩⟩
                  case measure => simp [intOf]; omega
                · clear hx1 hx2 hx3
                  subst hee
                  subst htx
                  have HSL := hid (still_any (w1.heap.size + 1 + 1 + 1) (w1.heap.size + 1) w1.heap.size me n (.slice (some ⟨w1.heap.size + 1 + 1, 0, none⟩) 1 1) p' p x' x w3 l 0 0 old' 0 0 0 (-1) tok hn ho.1 k3 k1 k0)
                  have HSA := hid (fun wx hx => state_any (xt := x') w1.heap.size me n p' wx hn ho.1 hx)
                  have el := st_len p' n hn
                  rw [List.append_assoc] at HSA el
                  have HBG := hid (fun wx => begins_yes (p'.digsTo n) ([59] ++ p'.entTo 12) wx el)
                  have tl := digsTo_len p' n
                  generalize ((x'.log == x.log) && (p'.digsTo n ++ [59] ++ p'.entTo 12 == p.digsTo n ++ [59] ++ p.entTo 12)) = sm at *
                  generalize p'.digsTo n = dg at *
                  generalize [59] ++ p'.entTo 12 = et at *
                  have HO := hid (And.intro ho.1 (And.intro k0 (And.intro k1 (And.intro k2 (And.intro k3 kB)))))
                  clear ho hlm k0 k1 k2 k3 kB el
                  go_wp2_with fail
                  refine HSL.out.mono ?_
                  rintro e w4 ⟨rfl, b4⟩
                  have B4 := hid b4
                  clear b4
                  go_wp2_with fail
                  refine (HSA.out _ (B4.out.bk' HO.out.2.1)).mono ?_
                  rintro e w5 ⟨rfl, b5⟩
                  have B5 := hid (B4.out.tr b5)
                  clear b5
                  go_wp2_with fail
                  refine (HBG.out _).mono ?_
                  rintro e w6 ⟨rfl, hw6⟩
                  subst w6
                  go_wp2
                  go_roundw
                  case rel => exact ⟨k + 1, 0, by omega, by go_num, rfl, ⟨p', x', HO.out.1, HXB.out, B5.out.bk' HO.out.2.1, B5.out.bk' HO.out.2.2.1, B5.out.bk' HO.out.2.2.2.1, ⟨_, _, _, _, _, _, _, _, _, _, _, B5.out.bk' HO.out.2.2.2.2.1⟩, HO.out.2.2.2.2.2.tr B5.out⟩⟩
                  case measure => simp [intOf]; omega
      · have hkl : k = len := by omega
        subst hkl
        go_wp2
        go_ret
        exact ⟨rfl, HI.out.blw⟩
  · go_wp2_with fail
    refine (HNW.out _).mono ?_
    rintro e w3 ⟨rfl, hw3⟩
    subst w3
    go_wp2
    go_ret
    exact ⟨rfl, B1.out.al _⟩
end Go.Proofs.YtalaldfgjgpacaaDoor

namespace Go.Proofs.YtalaldfgjgpacaaDoor
set_option linter.unusedVariables false
set_option linter.unusedSimpArgs false
open Go.RowKit

set_option maxRecDepth 100000 in
theorem small_empty (a : Option Addr) (cap : Nat) (w : World) : Calls Tryd.prog 5 #[.slice a 0 cap] w fun e w' => (e = .returned (.bool true) ∨ e = .returned (.bool false)) ∧ w' = w := by
  go_enter Tryd.func5, Tryd.ntmps5
  go_wp2
  refine wp_loop_once ?_
  go_wp2
  go_ret
  exact ⟨.inl rfl, rfl⟩

set_option maxRecDepth 100000 in
set_option maxHeartbeats 2000000 in
theorem strict_no (v : Value) (me n : Int) (w : World) (hsm : ∀ wx, Blw w wx → Calls Tryd.prog 5 #[v] wx fun e w' => (e = .returned (.bool true) ∨ e = .returned (.bool false)) ∧ w' = wx) (hno : newOk me n = false) (ht : Tab Tryd.prog w) :
    Calls Tryd.prog 4 #[v, .int .i64 me, .int .i64 n] w fun e w' => e = .returned (.bool true) ∧ Blw w w' := by
  have HST := hid (stands_any w ht)
  have HSM := hid hsm
  have HNW := hid (fun wx => new_no me n wx hno)
  have hpn : ∀ wx : World, (binOp .eql 24 (.pointer none) (.pointer none)).run Tryd.prog wx = .ok (.bool true) wx := fun _ => by kernel_rfl
  clear hsm hno
  go_enter Tryd.func4, Tryd.ntmps4
  go_wp2_with fail
  refine HST.out.mono ?_
  rintro e w1 ⟨rfl, b1⟩
  have B1 := hid b1
  clear b1
  go_wp2_with fail
  refine (HSM.out _ B1.out).mono ?_
  rintro e w2 ⟨he, hw2⟩
  subst w2
  rcases he with rfl | rfl
  · go_wp2_with fail
    refine (HNW.out _).mono ?_
    rintro e w3 ⟨rfl, hw3⟩
    subst w3
    go_wp2
    go_ret
    exact ⟨rfl, B1.out⟩
  · go_wp2_with fail
    refine (HNW.out _).mono ?_
    rintro e w3 ⟨rfl, hw3⟩
    subst w3
    go_wp2
    go_ret
    exact ⟨rfl, B1.out⟩

set_option maxRecDepth 100000 in
set_option maxHeartbeats 2000000 in
theorem strict_empty (a : Option Addr) (cap me n : Nat) (w : World) (hn : n ≤ 3) (hme : me < n) (ht : Tab Tryd.prog w) :
    Calls Tryd.prog 4 #[.slice a 0 cap, .int .i64 me, .int .i64 n] w fun e w' => e = .returned (.bool true) ∧ Blw w w' := by
  have HST := hid (stands_any w ht)
  have HSM := hid (fun wx => small_empty a cap wx)
  have HNW := hid (fun wx => new_yes me n wx hn hme)
  go_enter Tryd.func4, Tryd.ntmps4
  go_wp2_with fail
  refine HST.out.mono ?_
  rintro e w1 ⟨rfl, b1⟩
  have B1 := hid b1
  clear b1
  go_wp2_with fail
  refine (HSM.out _).mono ?_
  rintro e w2 ⟨he, hw2⟩
  subst w2
  rcases he with rfl | rfl
  · go_wp2_with fail
    refine (HNW.out _).mono ?_
    rintro e w3 ⟨rfl, hw3⟩
    subst w3
    go_wp2_with fail
    refine wp_loop_once ?_
    go_wp2
    go_ret
    exact ⟨rfl, (((B1.out.al _).al _).al _).al _⟩
  · go_wp2_with fail
    refine (HNW.out _).mono ?_
    rintro e w3 ⟨rfl, hw3⟩
    subst w3
    go_wp2
    go_ret
    exact ⟨rfl, B1.out.al _⟩
end Go.Proofs.YtalaldfgjgpacaaDoor
