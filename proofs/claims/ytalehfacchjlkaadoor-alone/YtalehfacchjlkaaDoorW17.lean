import Derived.Test.YtalehfacchjlkaaDoorW16
namespace Go.Proofs.YtalehfacchjlkaaDoor
set_option linter.unusedVariables false
set_option linter.unusedSimpArgs false
open Go.RowKit
attribute [local go_sem ↓] Go.wp_at_zero Go.wp_at_succ run_load63 run_store63
attribute [local go_sem] blkOf_mk offOf_mk isPt_mk isRow_pc Has_drew HasW_drew rowOf_drew HasW_new

/-- What a client's call is answered with, and what is held behind it. -/
def evPut (me n : Nat) (p taken : Pc) (l : List UInt8) (c it v : Int) : Pc := if evErr me n p l = 0 then p.join (taken.put me (p.count (me : Int)) ⟨true, true, c, it, v⟩) else p
def evTake (me n : Nat) (p taken : Pc) (l : List UInt8) : Pc := if evErr me n p l = 0 then p.join (taken.put me (p.count (me : Int)) { taken me (p.count (me : Int)) with known := true }) else p
def evTok (me n : Nat) (p q : Pc) (l : List UInt8) : List UInt8 := if evErr me n p l = 0 then q.digsTo n else []

theorem RepTo.blw {b me n : Nat} {p : Pc} {w w' : World} (h : w.heap[b]? = some (.cells (repArr me n p) 65)) (hb : Blw w w') : RepTo b me n p w w' := ⟨hb.bk' h, hb.bx b⟩

theorem putEvent_any (b me n : Nat) (p q : Pc) (s : ByteArray) (c it v : Int) (w : World) (hn : n ≤ 3) (hme : me < n) (hs : s.size ≤ maxLen) (h : w.heap[b]? = some (.cells (repArr me n p) 65))
    (hc0 : 0 ≤ c) (hc1 : c < 3) (hi0 : 0 ≤ it) (hi1 : it < 4) (hv0 : -99 ≤ v) (hv1 : v ≤ 99) :
    Calls Tryd.prog 22 #[.pointer (some ⟨b, 0, none⟩), .string s, .agg q.arr, .agg #[.int .i64 c, .int .i64 it, .int .i64 v]] w fun e w' =>
      e = .returned (.tuple #[.string ⟨(evTok me n p (evPut me n p q s.data.toList c it v) s.data.toList).toArray⟩, .int .i64 (evErr me n p s.data.toList)]) ∧ RepTo b me n (evPut me n p q s.data.toList c it v) w w' := by
  by_cases hE : evErr me n p s.data.toList = 0
  · unfold evTok evPut
    rw [if_pos hE, if_pos hE, hE]
    exact putEvent_yes b me n p q s c it v w hn hme hs h hE hc0 hc1 hi0 hi1 hv0 hv1
  · unfold evTok evPut
    rw [if_neg hE, if_neg hE]
    exact (putEvent_no b me n p q s c it v w hn hs h hE).mono fun _ _ h' => ⟨h'.1, RepTo.blw h h'.2⟩

theorem takeEvent_any (b me n : Nat) (p q : Pc) (s : ByteArray) (w : World) (hn : n ≤ 3) (hme : me < n) (hs : s.size ≤ maxLen) (h : w.heap[b]? = some (.cells (repArr me n p) 65)) :
    Calls Tryd.prog 24 #[.pointer (some ⟨b, 0, none⟩), .string s, .agg q.arr] w fun e w' =>
      e = .returned (.tuple #[.string ⟨(evTok me n p (evTake me n p q s.data.toList) s.data.toList).toArray⟩, .int .i64 (evErr me n p s.data.toList)]) ∧ RepTo b me n (evTake me n p q s.data.toList) w w' := by
  by_cases hE : evErr me n p s.data.toList = 0
  · unfold evTok evTake
    rw [if_pos hE, if_pos hE, hE]
    exact takeEvent_yes b me n p q s w hn hme hs h hE
  · unfold evTok evTake
    rw [if_neg hE, if_neg hE]
    exact (takeEvent_no b me n p q s w hn hs h hE).mono fun _ _ h' => ⟨h'.1, RepTo.blw h h'.2⟩

/-- Behind new blocks of the call's own. -/
theorem RepTo.after {b me n : Nat} {q : Pc} {w w1 w2 : World} (hb : Blw w w1) (h : RepTo b me n q w1 w2) : RepTo b me n q w w2 := ⟨h.1, (hb.bx b).tr h.2⟩

set_option maxRecDepth 100000 in
set_option maxHeartbeats 400000 in
theorem add_yes (b me n : Nat) (p : Pc) (s : ByteArray) (c it v : Int) (w : World) (hn : n ≤ 3) (hme : me < n) (hs : s.size ≤ maxLen) (h : w.heap[b]? = some (.cells (repArr me n p) 65))
    (hc0 : 0 ≤ c) (hc1 : c < 3) (hi0 : 0 ≤ it) (hi1 : it < 4) (hv0 : -99 ≤ v) (hv1 : v ≤ 99) :
    Calls Tryd.prog 8 #[.pointer (some ⟨b, 0, none⟩), .string s, .int .i64 c, .int .i64 it, .int .i64 v] w fun e w' =>
      e = .returned (.tuple #[.string ⟨(evTok me n p (evPut me n p Pc.empty s.data.toList c it v) s.data.toList).toArray⟩, .int .i64 (evErr me n p s.data.toList)]) ∧ RepTo b me n (evPut me n p Pc.empty s.data.toList c it v) w w' := by
  have HPl := hid (isPlace_any c it w)
  rw [show (itemB4 it && cartB3 c) = true by simp [itemB4, cartB3]; omega] at HPl
  have HPu := hid (fun wx hx => putEvent_any b me n p Pc.empty s c it v wx hn hme hs hx hc0 hc1 hi0 hi1 hv0 hv1)
  rw [← zero63] at HPu
  have d1 : decide (v < -99) = false := by simp; omega
  have d2 : decide (99 < v) = false := by simp; omega
  have hbl := lt_of_blk h
  have H := hid h
  clear h
  go_enter Tryd.func8, Tryd.ntmps8
  go_wp2_with fail
  refine HPl.out.mono ?_
  rintro e w1 ⟨rfl, hw1⟩
  subst w1
  go_wp2_with fail
  refine (HPu.out _ (hp_old _ hbl H.out)).mono ?_
  rintro e w2 ⟨rfl, h2⟩
  go_wp2
  go_ret2
  exact ⟨rfl, h2.after ((Blw.rfl _).al _)⟩

set_option maxRecDepth 100000 in
set_option maxHeartbeats 400000 in
theorem add_no (b : Nat) (s : ByteArray) (c it v : Int) (w : World) (hno : ¬ (0 ≤ c ∧ c < 3 ∧ 0 ≤ it ∧ it < 4 ∧ -99 ≤ v ∧ v ≤ 99)) :
    Calls Tryd.prog 8 #[.pointer (some ⟨b, 0, none⟩), .string s, .int .i64 c, .int .i64 it, .int .i64 v] w fun e w' => e = .returned (.tuple #[.string ⟨#[]⟩, .int .i64 1]) ∧ w' = w := by
  have HPl := hid (isPlace_any c it w)
  by_cases hp : (itemB4 it && cartB3 c) = true
  · rw [hp] at HPl
    have hp' : 0 ≤ it ∧ it < 4 ∧ 0 ≤ c ∧ c < 3 := by simp [itemB4, cartB3] at hp; omega
    clear hp
    by_cases g1 : v < -99
    · have d1 : decide (v < -99) = true := by simpa using g1
      clear hno hp'
      go_enter Tryd.func8, Tryd.ntmps8
      go_wp2_with fail
      refine HPl.out.mono ?_
      rintro e w1 ⟨rfl, hw1⟩
      subst w1
      go_wp2
      go_ret2
      exact ⟨rfl, rfl⟩
    · have d1 : decide (v < -99) = false := by simpa using g1
      have g2 : 99 < v := by omega
      have d2 : decide (99 < v) = true := by simpa using g2
      clear hno hp'
      go_enter Tryd.func8, Tryd.ntmps8
      go_wp2_with fail
      refine HPl.out.mono ?_
      rintro e w1 ⟨rfl, hw1⟩
      subst w1
      go_wp2
      go_ret2
      exact ⟨rfl, rfl⟩
  · rw [show (itemB4 it && cartB3 c) = false by simpa using hp] at HPl
    clear hno hp
    go_enter Tryd.func8, Tryd.ntmps8
    go_wp2_with fail
    refine HPl.out.mono ?_
    rintro e w1 ⟨rfl, hw1⟩
    subst w1
    go_wp2
    go_ret2
    exact ⟨rfl, rfl⟩

set_option maxRecDepth 100000 in
set_option maxHeartbeats 400000 in
theorem set_yes (b me n : Nat) (p : Pc) (s : ByteArray) (c it v : Int) (w : World) (hn : n ≤ 3) (hme : me < n) (hs : s.size ≤ maxLen) (h : w.heap[b]? = some (.cells (repArr me n p) 65))
    (hc0 : 0 ≤ c) (hc1 : c < 3) (hi0 : 0 ≤ it) (hi1 : it < 4) (hv0 : 0 ≤ v) (hv1 : v ≤ 99) :
    Calls Tryd.prog 9 #[.pointer (some ⟨b, 0, none⟩), .string s, .int .i64 c, .int .i64 it, .int .i64 v] w fun e w' =>
      e = .returned (.tuple #[.string ⟨(evTok me n p (evPut me n p (p.dotsOf c it) s.data.toList c it v) s.data.toList).toArray⟩, .int .i64 (evErr me n p s.data.toList)]) ∧ RepTo b me n (evPut me n p (p.dotsOf c it) s.data.toList c it v) w w' := by
  have HPl := hid (isPlace_any c it w)
  rw [show (itemB4 it && cartB3 c) = true by simp [itemB4, cartB3]; omega] at HPl
  have HPu := hid (fun wx hx => putEvent_any b me n p (p.dotsOf c it) s c it v wx hn hme hs hx hc0 hc1 hi0 hi1 (by omega) hv1)
  have HDo := hid (fun wx => dotsOf_any p c it wx)
  have d1 : decide (v < 0) = false := by simp; omega
  have d2 : decide (99 < v) = false := by simp; omega
  have hbl := lt_of_blk h
  have H := hid h
  have g1 : (w.alloc (.cells #[.int .i64 c, .int .i64 it, .int .i64 v] 57)).heap[b]? = some (.cells (repArr me n p) 65) := hp_old _ hbl h
  have H1 := hid g1
  have hrow := rowOf_rep g1
  have hhas := Has_rep g1
  clear h g1
  go_enter Tryd.func9, Tryd.ntmps9
  go_wp2_with fail
  refine HPl.out.mono ?_
  rintro e w1 ⟨rfl, hw1⟩
  subst w1
  go_wp2_with fail
  refine (HDo.out _).mono ?_
  rintro e w2 ⟨rfl, b2⟩
  have k0 := b2.bk' H1.out
  have k1 : w2.heap[w.heap.size]? = some (.cells #[.int .i64 c, .int .i64 it, .int .i64 v] 57) := b2.bk' (hp_new _ _)
  have k0' : (putRowAt (w2.alloc (.cells Tryd.zeroCells63 63)) w2.heap.size 0 (.agg (p.dotsOf c it).arr)).heap[b]? = some (.cells (repArr me n p) 65) := by rw [put_ne (Nat.ne_of_lt (lt_of_blk k0))]; exact hp_old _ (lt_of_blk k0) k0
  have k1' : (putRowAt (w2.alloc (.cells Tryd.zeroCells63 63)) w2.heap.size 0 (.agg (p.dotsOf c it).arr)).heap[w.heap.size]? = some (.cells #[.int .i64 c, .int .i64 it, .int .i64 v] 57) := by rw [put_ne (Nat.ne_of_lt (lt_of_blk k1))]; exact hp_old _ (lt_of_blk k1) k1
  have r3 := rowOf_pc (put_new (w := w2) (q := p.dotsOf c it))
  have h3 := Has_pc (put_new (w := w2) (q := p.dotsOf c it))
  have e0 : (putRowAt (w2.alloc (.cells Tryd.zeroCells63 63)) w2.heap.size 0 (.agg (p.dotsOf c it).arr)).cell? ⟨w.heap.size, 0, none⟩ = some (.int .i64 c) := blk_cell k1' 0
  have e1 : (putRowAt (w2.alloc (.cells Tryd.zeroCells63 63)) w2.heap.size 0 (.agg (p.dotsOf c it).arr)).cell? ⟨w.heap.size, 1, none⟩ = some (.int .i64 it) := blk_cell k1' 1
  have e2 : (putRowAt (w2.alloc (.cells Tryd.zeroCells63 63)) w2.heap.size 0 (.agg (p.dotsOf c it).arr)).cell? ⟨w.heap.size, 2, none⟩ = some (.int .i64 v) := blk_cell k1' 2
  have BB : Hid (Blw w (putRowAt (w2.alloc (.cells Tryd.zeroCells63 63)) w2.heap.size 0 (.agg (p.dotsOf c it).arr))) := put_blw ((((Blw.rfl _).al _).tr b2).al _) _ _ (((Blw.rfl _).al _).tr b2).sz
  have K0 := hid k0'
  clear k0 k1 k0' k1' b2 hrow hhas
  go_wp2_with fail
  refine (HPu.out _ K0.out).mono ?_
  rintro e w3 ⟨rfl, h2⟩
  go_wp2
  go_ret2
  exact ⟨rfl, h2.after BB.out⟩

set_option maxRecDepth 100000 in
set_option maxHeartbeats 400000 in
theorem set_no (b : Nat) (s : ByteArray) (c it v : Int) (w : World) (hno : ¬ (0 ≤ c ∧ c < 3 ∧ 0 ≤ it ∧ it < 4 ∧ 0 ≤ v ∧ v ≤ 99)) :
    Calls Tryd.prog 9 #[.pointer (some ⟨b, 0, none⟩), .string s, .int .i64 c, .int .i64 it, .int .i64 v] w fun e w' => e = .returned (.tuple #[.string ⟨#[]⟩, .int .i64 1]) ∧ w' = w := by
  have HPl := hid (isPlace_any c it w)
  by_cases hp : (itemB4 it && cartB3 c) = true
  · rw [hp] at HPl
    have hp' : 0 ≤ it ∧ it < 4 ∧ 0 ≤ c ∧ c < 3 := by simp [itemB4, cartB3] at hp; omega
    clear hp
    by_cases g1 : v < 0
    · have d1 : decide (v < 0) = true := by simpa using g1
      clear hno hp'
      go_enter Tryd.func9, Tryd.ntmps9
      go_wp2_with fail
      refine HPl.out.mono ?_
      rintro e w1 ⟨rfl, hw1⟩
      subst w1
      go_wp2
      go_ret2
      exact ⟨rfl, rfl⟩
    · have d1 : decide (v < 0) = false := by simpa using g1
      have g2 : 99 < v := by omega
      have d2 : decide (99 < v) = true := by simpa using g2
      clear hno hp'
      go_enter Tryd.func9, Tryd.ntmps9
      go_wp2_with fail
      refine HPl.out.mono ?_
      rintro e w1 ⟨rfl, hw1⟩
      subst w1
      go_wp2
      go_ret2
      exact ⟨rfl, rfl⟩
  · rw [show (itemB4 it && cartB3 c) = false by simpa using hp] at HPl
    clear hno hp
    go_enter Tryd.func9, Tryd.ntmps9
    go_wp2_with fail
    refine HPl.out.mono ?_
    rintro e w1 ⟨rfl, hw1⟩
    subst w1
    go_wp2
    go_ret2
    exact ⟨rfl, rfl⟩

set_option maxRecDepth 100000 in
set_option maxHeartbeats 400000 in
theorem remove_yes (b me n : Nat) (p : Pc) (s : ByteArray) (c it : Int) (w : World) (hn : n ≤ 3) (hme : me < n) (hs : s.size ≤ maxLen) (h : w.heap[b]? = some (.cells (repArr me n p) 65))
    (hc0 : 0 ≤ c) (hc1 : c < 3) (hi0 : 0 ≤ it) (hi1 : it < 4) :
    Calls Tryd.prog 10 #[.pointer (some ⟨b, 0, none⟩), .string s, .int .i64 c, .int .i64 it] w fun e w' =>
      e = .returned (.tuple #[.string ⟨(evTok me n p (evTake me n p (p.dotsOf c it) s.data.toList) s.data.toList).toArray⟩, .int .i64 (evErr me n p s.data.toList)]) ∧ RepTo b me n (evTake me n p (p.dotsOf c it) s.data.toList) w w' := by
  have HPl := hid (isPlace_any c it w)
  rw [show (itemB4 it && cartB3 c) = true by simp [itemB4, cartB3]; omega] at HPl
  have HPu := hid (fun wx hx => takeEvent_any b me n p (p.dotsOf c it) s wx hn hme hs hx)
  have HDo := hid (fun wx => dotsOf_any p c it wx)
  have hbl := lt_of_blk h
  have H := hid h
  have hrow := rowOf_rep h
  have hhas := Has_rep h
  clear h
  go_enter Tryd.func10, Tryd.ntmps10
  go_wp2_with fail
  refine HPl.out.mono ?_
  rintro e w1 ⟨rfl, hw1⟩
  subst w1
  go_wp2_with fail
  refine (HDo.out _).mono ?_
  rintro e w2 ⟨rfl, b2⟩
  have k0 := b2.bk' H.out
  have k0' : (putRowAt (w2.alloc (.cells Tryd.zeroCells63 63)) w2.heap.size 0 (.agg (p.dotsOf c it).arr)).heap[b]? = some (.cells (repArr me n p) 65) := by rw [put_ne (Nat.ne_of_lt (lt_of_blk k0))]; exact hp_old _ (lt_of_blk k0) k0
  have r3 := rowOf_pc (put_new (w := w2) (q := p.dotsOf c it))
  have h3 := Has_pc (put_new (w := w2) (q := p.dotsOf c it))
  have BB : Hid (Blw w (putRowAt (w2.alloc (.cells Tryd.zeroCells63 63)) w2.heap.size 0 (.agg (p.dotsOf c it).arr))) := put_blw (b2.al _) _ _ b2.sz
  have K0 := hid k0'
  clear k0 k0' b2 hrow hhas
  go_wp2_with fail
  refine (HPu.out _ K0.out).mono ?_
  rintro e w3 ⟨rfl, h2⟩
  go_wp2
  go_ret2
  exact ⟨rfl, h2.after BB.out⟩

set_option maxRecDepth 100000 in
set_option maxHeartbeats 400000 in
theorem remove_no (b : Nat) (s : ByteArray) (c it : Int) (w : World) (hno : ¬ (0 ≤ c ∧ c < 3 ∧ 0 ≤ it ∧ it < 4)) :
    Calls Tryd.prog 10 #[.pointer (some ⟨b, 0, none⟩), .string s, .int .i64 c, .int .i64 it] w fun e w' => e = .returned (.tuple #[.string ⟨#[]⟩, .int .i64 1]) ∧ w' = w := by
  have HPl := hid (isPlace_any c it w)
  rw [show (itemB4 it && cartB3 c) = false by simp [itemB4, cartB3]; omega] at HPl
  clear hno
  go_enter Tryd.func10, Tryd.ntmps10
  go_wp2_with fail
  refine HPl.out.mono ?_
  rintro e w1 ⟨rfl, hw1⟩
  subst w1
  go_wp2
  go_ret2
  exact ⟨rfl, rfl⟩

set_option maxRecDepth 100000 in
set_option maxHeartbeats 400000 in
theorem clear_yes (b me n : Nat) (p : Pc) (s : ByteArray) (c : Int) (w : World) (hn : n ≤ 3) (hme : me < n) (hs : s.size ≤ maxLen) (h : w.heap[b]? = some (.cells (repArr me n p) 65))
    (hc0 : 0 ≤ c) (hc1 : c < 3) :
    Calls Tryd.prog 11 #[.pointer (some ⟨b, 0, none⟩), .string s, .int .i64 c] w fun e w' =>
      e = .returned (.tuple #[.string ⟨(evTok me n p (evTake me n p (p.cartTo c 4) s.data.toList) s.data.toList).toArray⟩, .int .i64 (evErr me n p s.data.toList)]) ∧ RepTo b me n (evTake me n p (p.cartTo c 4) s.data.toList) w w' := by
  have HPl := hid (isCart_any c w)
  rw [show cartB3 c = true by simp [cartB3]; omega] at HPl
  have HPu := hid (fun wx hx => takeEvent_any b me n p (p.cartTo c 4) s wx hn hme hs hx)
  have HDo := hid (dotsOfCart_any b me n p c w h)
  have H := hid h
  clear h
  go_enter Tryd.func11, Tryd.ntmps11
  go_wp2_with fail
  refine HPl.out.mono ?_
  rintro e w1 ⟨rfl, hw1⟩
  subst w1
  go_wp2_with fail
  refine HDo.out.mono ?_
  rintro e w2 ⟨rfl, b2⟩
  have k0 := b2.bk' H.out
  have k0' : (putRowAt (w2.alloc (.cells Tryd.zeroCells63 63)) w2.heap.size 0 (.agg (p.cartTo c 4).arr)).heap[b]? = some (.cells (repArr me n p) 65) := by rw [put_ne (Nat.ne_of_lt (lt_of_blk k0))]; exact hp_old _ (lt_of_blk k0) k0
  have r3 := rowOf_pc (put_new (w := w2) (q := p.cartTo c 4))
  have h3 := Has_pc (put_new (w := w2) (q := p.cartTo c 4))
  have BB : Hid (Blw w (putRowAt (w2.alloc (.cells Tryd.zeroCells63 63)) w2.heap.size 0 (.agg (p.cartTo c 4).arr))) := put_blw (b2.al _) _ _ b2.sz
  have K0 := hid k0'
  clear k0 k0' b2
  go_wp2_with fail
  refine (HPu.out _ K0.out).mono ?_
  rintro e w3 ⟨rfl, h2⟩
  go_wp2
  go_ret2
  exact ⟨rfl, h2.after BB.out⟩

set_option maxRecDepth 100000 in
set_option maxHeartbeats 400000 in
theorem clear_no (b : Nat) (s : ByteArray) (c : Int) (w : World) (hno : ¬ (0 ≤ c ∧ c < 3)) :
    Calls Tryd.prog 11 #[.pointer (some ⟨b, 0, none⟩), .string s, .int .i64 c] w fun e w' => e = .returned (.tuple #[.string ⟨#[]⟩, .int .i64 1]) ∧ w' = w := by
  have HPl := hid (isCart_any c w)
  rw [show cartB3 c = false by simp [cartB3]; omega] at HPl
  clear hno
  go_enter Tryd.func11, Tryd.ntmps11
  go_wp2_with fail
  refine HPl.out.mono ?_
  rintro e w1 ⟨rfl, hw1⟩
  subst w1
  go_wp2
  go_ret2
  exact ⟨rfl, rfl⟩

set_option maxRecDepth 100000 in
set_option maxHeartbeats 400000 in
theorem read_yes (b me n : Nat) (p : Pc) (s : ByteArray) (c : Int) (w : World) (hn : n ≤ 3) (hs : s.size ≤ maxLen) (hp : p.ok) (ht : Tab Tryd.prog w) (h : w.heap[b]? = some (.cells (repArr me n p) 65))
    (hc0 : 0 ≤ c) (hc1 : c < 3) (hE : tokErr n p s.data.toList = 0) :
    Calls Tryd.prog 12 #[.pointer (some ⟨b, 0, none⟩), .string s, .int .i64 c] w fun e w' =>
      e = .returned (.tuple #[.string ⟨(p.sumsTo c 4).toArray⟩, .string ⟨(p.digsTo n).toArray⟩, .int .i64 0]) ∧ Blw w w' := by
  have HPl := hid (isCart_any c w)
  rw [show cartB3 c = true by simp [cartB3]; omega] at HPl
  have HT := hid (checkToken_any b me n p s w hn hs h)
  rw [hE] at HT
  have HS := hid (fun wx htx hx => sums_any b me n p c wx hp htx hx)
  have HD := hid (fun wx hx => counts_any b me n p wx hn hx)
  have H := hid h
  have HTb := hid ht
  clear h hE hp ht
  go_enter Tryd.func12, Tryd.ntmps12
  go_wp2_with fail
  refine HPl.out.mono ?_
  rintro e w1 ⟨rfl, hw1⟩
  subst w1
  go_wp2_with fail
  refine HT.out.mono ?_
  rintro e w2 ⟨rfl, b2⟩
  go_wp2_with fail
  refine (HS.out _ (HTb.out.blw b2) (b2.bk' H.out)).mono ?_
  rintro e w3 ⟨rfl, b3⟩
  have b4 := b2.tr b3
  go_wp2_with fail
  refine (HD.out _ (b4.bk' H.out)).mono ?_
  rintro e w4 ⟨rfl, b5⟩
  go_wp2
  go_ret3
  exact ⟨rfl, b4.tr b5⟩

set_option maxRecDepth 100000 in
set_option maxHeartbeats 400000 in
theorem read_stale (b me n : Nat) (p : Pc) (s : ByteArray) (c : Int) (w : World) (hn : n ≤ 3) (hs : s.size ≤ maxLen) (h : w.heap[b]? = some (.cells (repArr me n p) 65))
    (hc0 : 0 ≤ c) (hc1 : c < 3) (hE : tokErr n p s.data.toList ≠ 0) :
    Calls Tryd.prog 12 #[.pointer (some ⟨b, 0, none⟩), .string s, .int .i64 c] w fun e w' =>
      e = .returned (.tuple #[.string ⟨#[]⟩, .string ⟨#[]⟩, .int .i64 (tokErr n p s.data.toList)]) ∧ Blw w w' := by
  have HPl := hid (isCart_any c w)
  rw [show cartB3 c = true by simp [cartB3]; omega] at HPl
  have HT := hid (checkToken_any b me n p s w hn hs h)
  generalize tokErr n p s.data.toList = te at *
  have he : (te != 0) = true := by simp [hE]
  clear h hE
  go_enter Tryd.func12, Tryd.ntmps12
  go_wp2_with fail
  refine HPl.out.mono ?_
  rintro e w1 ⟨rfl, hw1⟩
  subst w1
  go_wp2_with fail
  refine HT.out.mono ?_
  rintro e w2 ⟨rfl, b2⟩
  go_wp2
  go_ret3
  exact ⟨rfl, b2⟩

set_option maxRecDepth 100000 in
set_option maxHeartbeats 400000 in
theorem read_no (b : Nat) (s : ByteArray) (c : Int) (w : World) (hno : ¬ (0 ≤ c ∧ c < 3)) :
    Calls Tryd.prog 12 #[.pointer (some ⟨b, 0, none⟩), .string s, .int .i64 c] w fun e w' => e = .returned (.tuple #[.string ⟨#[]⟩, .string ⟨#[]⟩, .int .i64 1]) ∧ w' = w := by
  have HPl := hid (isCart_any c w)
  rw [show cartB3 c = false by simp [cartB3]; omega] at HPl
  clear hno
  go_enter Tryd.func12, Tryd.ntmps12
  go_wp2_with fail
  refine HPl.out.mono ?_
  rintro e w1 ⟨rfl, hw1⟩
  subst w1
  go_wp2
  go_ret3
  exact ⟨rfl, rfl⟩
end Go.Proofs.YtalehfacchjlkaaDoor
