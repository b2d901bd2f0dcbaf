import Derived.Test.YtalaldfgjgpacaaGreatDoorP2
import Derived.Test.YtalaldfgjgpacaaGreatDoorP4
import Derived.Test.YtalaldfgjgpacaaGreatDoorP5
import Derived.Test.YtalaldfgjgpacaaGreatDoorP6
namespace Go.Proofs.YtalaldfgjgpacaaGreatDoor
set_option linter.unusedVariables false
set_option linter.unusedSimpArgs false
open Go.RowKit

/-- One step of a script. -/
structure OpR where
  kind : Int
  r : Int
  t : Int
  a : Int
  b : Int
  c : Int
  s : ByteArray

def OpR.cells (o : OpR) : List Value := [.int .i64 o.kind, .int .i64 o.r, .int .i64 o.t, .int .i64 o.a, .int .i64 o.b, .int .i64 o.c, .string o.s]

/-- The steps lie in block sb from off on. -/
def Lies (ops : Nat → OpR) (len sb off : Nat) (w : World) : Prop :=
  ∀ i, i < len → w.cell? ⟨sb, off + i * 7, none⟩ = some (.int .i64 (ops i).kind) ∧ w.cell? ⟨sb, off + i * 7 + 1, none⟩ = some (.int .i64 (ops i).r) ∧ w.cell? ⟨sb, off + i * 7 + 2, none⟩ = some (.int .i64 (ops i).t) ∧
    w.cell? ⟨sb, off + i * 7 + 3, none⟩ = some (.int .i64 (ops i).a) ∧ w.cell? ⟨sb, off + i * 7 + 4, none⟩ = some (.int .i64 (ops i).b) ∧ w.cell? ⟨sb, off + i * 7 + 5, none⟩ = some (.int .i64 (ops i).c) ∧ w.cell? ⟨sb, off + i * 7 + 6, none⟩ = some (.string (ops i).s)

theorem Lies.on {ops : Nat → OpR} {len sb off : Nat} {w w' : World} (h : Lies ops len sb off w) (hb : w'.heap[sb]? = w.heap[sb]?) : Lies ops len sb off w' := by
  intro i hi
  have e : ∀ o, w'.cell? ⟨sb, o, none⟩ = w.cell? ⟨sb, o, none⟩ := fun o => World.cell?_of_block (w := w) (a := ⟨sb, o, none⟩) hb
  simp only [e]
  exact h i hi

def sizeTo (ops : Nat → OpR) (len : Nat) : Nat → Nat
  | 0 => len
  | i + 1 => sizeTo ops len i + (ops i).s.size

set_option maxRecDepth 100000 in
set_option maxHeartbeats 400000 in
theorem small_any (ops : Nat → OpR) (len cap sb off : Nat) (w : World) (hl : len ≤ maxLen) (hs : ∀ i, i < len → (ops i).s.size ≤ 140737488355328) (h : Lies ops len sb off w) :
    Calls Tryz.prog 14 #[.slice (some ⟨sb, off, none⟩) len cap] w fun e w' => (e = .returned (.bool true) ∧ len ≤ 1048576 ∨ e = .returned (.bool false)) ∧ w' = w := by
  unfold maxLen at hl
  by_cases hbig : 1048576 < len
  · clear hs h
    go_enter Tryz.func14, Tryz.ntmps14
    go_wp2
    go_ret
    exact ⟨.inr rfl, rfl⟩
  · have HS := hid hs
    have HL := hid h
    clear hs h
    go_enter Tryz.func14, Tryz.ntmps14
    go_wp2
    go_loop [3, 4] (fun n i => ∃ k m : Nat, k ≤ len ∧ i = .int .i64 k ∧ n = .int .i64 m ∧ m ≤ 1048576) (fun _ i => len - (intOf i).toNat)
    case atStart => exact ⟨0, len, by omega, rfl, rfl, by omega⟩
    case round =>
      obtain ⟨k, m, hk, rfl, rfl, hm⟩ := hrel
      by_cases hlt : k < len
      · obtain ⟨-, -, -, -, -, -, c6⟩ := HL.out k hlt
        have hsz := HS.out k hlt
        by_cases hgt : 1048576 < m + (ops k).s.size
        · go_wp2
          go_ret
          exact ⟨.inr rfl, rfl⟩
        · go_wp2
          go_round
          case rel => exact ⟨k + 1, m + (ops k).s.size, by omega, by go_num, by go_num, by omega⟩
          case measure => simp [intOf]; omega
      · go_wp2
        go_ret
        exact ⟨.inl ⟨rfl, by omega⟩, rfl⟩

theorem small_nil (w : World) : Calls Tryz.prog 14 #[.slice none 0 0] w fun e w' => e = .returned (.bool true) ∧ w' = w := by
  go_enter Tryz.func14, Tryz.ntmps14
  go_wp2
  refine wp_loop_once ?_
  go_wp2
  go_ret
  exact ⟨rfl, rfl⟩



/-- Which of n things a raw number speaks of. -/
def pickN (c : Int) (n : Int) : Int := if c < 0 then (-(c + 1)) % n else c % n

theorem pickN_bd (c n : Int) (hn : 0 < n) : 0 ≤ pickN c n ∧ pickN c n < n := by
  unfold pickN
  split
  · exact ⟨Int.emod_nonneg _ (by omega), Int.emod_lt_of_pos _ hn⟩
  · exact ⟨Int.emod_nonneg _ (by omega), Int.emod_lt_of_pos _ hn⟩

set_option maxHeartbeats 400000 in
theorem pick_any (c n : Int) (w : World) (h0 : -9223372036854775808 ≤ c) (h1 : c ≤ 9223372036854775807) (hn : 0 < n) (hn2 : n ≤ 1000000000) :
    Calls Tryz.prog 21 #[.int .i64 c, .int .i64 n] w fun e w' => e = .returned (.int .i64 (pickN c n)) ∧ w' = w := by
  obtain ⟨r, hr⟩ : ∃ r, r = pickN c n := ⟨_, rfl⟩
  rw [← hr]
  have HR := hid hr
  clear hr
  by_cases hc : c < 0
  · go_enter Tryz.func21, Tryz.ntmps21
    go_wp2
    go_ret
    refine ⟨?_, rfl⟩
    rw [HR.out, pickN, if_pos hc, ← Int.tmod_eq_emod_of_nonneg (by omega), Int.neg_tmod]
    rfl
  · go_enter Tryz.func21, Tryz.ntmps21
    go_wp2
    go_ret
    refine ⟨?_, rfl⟩
    rw [HR.out, pickN, if_neg (by omega)]
    first | rfl | (rw [← Int.tmod_eq_emod_of_nonneg (by omega)]; rfl)


/-- The list of pairs. -/
structure PInv (w0 wr : World) (v : Value) (l : List PD) (B : Nat) : Prop where
  bl : Blw w0 wr
  own : wr.ownsRow w0.heap.size 47 1 v l.length (l.map fun d => Value.pointer (some ⟨d.pb, 0, none⟩))
  all : ∀ d ∈ l, PairAt w0.heap.size B wr d
  dis : l.Pairwise (fun d e => d.b ≠ e.b ∧ d.cb ≠ e.cb ∧ ∀ g, d.lt.ownBlock = some g → e.lt.ownBlock ≠ some g)

theorem PInv.start (w : World) : PInv w w (.slice none 0 0) [] 0 := ⟨Blw.rfl _, World.ownsRow_nil _ _ _ _, (fun d h => by cases h), List.Pairwise.nil⟩

theorem own_on {w w' : World} {base : Nat} {t : TypeId} {v : Value} {n : Nat} {xs : List Value} (h : w.ownsRow base t 1 v n xs) (hb : ∀ g C, v.ownBlock = some g → w.heap[g]? = some (.cells C t) → w'.heap[g]? = w.heap[g]?) : w'.ownsRow base t 1 v n xs := by
  refine ⟨h.1, ?_⟩
  rcases h.2 with hn | ⟨g, cap, cur, e, hg, hh, r⟩
  · exact .inl hn
  · exact .inr ⟨g, cap, cur, e, hg, (hb g cur (by rw [e]; rfl) hh).trans hh, r⟩

theorem PInv.on {w0 w w' : World} {v : Value} {l : List PD} {B B' : Nat} (h : PInv w0 w v l B) (hb : Blw w w') (hB : B ≤ B') : PInv w0 w' v l B' :=
  ⟨h.bl.tr hb, own_on h.own (fun g C _ hC => hb.bk g (lt_of_blk hC)), fun d hd => (h.all d hd).on hb B' hB, h.dis⟩

theorem PInv.op {w0 w : World} {v : Value} {l : List PD} {B : Nat} (h : PInv w0 w v l B) : ∃ (ao : Option Addr) (cap : Nat), v = .slice ao l.length cap ∧
    (∀ j (hj : j < l.length), ∃ g, ao = some ⟨g, 0, none⟩ ∧ w.cell? ⟨g, j, none⟩ = some (.pointer (some ⟨l[j].pb, 0, none⟩))) := by
  rcases h.own.2 with ⟨rfl, hn⟩ | ⟨g, cap, cur, rfl, hg, hh, h1, h2, h3, h4⟩
  · exact ⟨none, 0, by rw [hn], fun j hj => by omega⟩
  · refine ⟨some ⟨g, 0, none⟩, cap, rfl, fun j hj => ⟨g, rfl, ?_⟩⟩
    rw [blk_cell hh]
    have e : cur[j]? = (l.map fun d => Value.pointer (some ⟨d.pb, 0, none⟩))[j]? := by
      rw [← h4, List.getElem?_take_of_lt (by omega)]; simp
    rw [e]; simp [hj]

/-- A pair more. -/
theorem PInv.snoc {w0 w w1 w' : World} {v v' : Value} {l : List PD} {B : Nat} {d : PD} (h : PInv w0 w v l B) (hb : Blw w w1) (hd : PairAt w0.heap.size B w1 d) (nb : w.heap.size ≤ d.b) (nc : w.heap.size ≤ d.cb) (nl : d.lt.ownBlock = none) {ob : Obj}
    (ho : w'.ownsRow w0.heap.size 47 1 v' (l.length + 1) ((l.map fun d => Value.pointer (some ⟨d.pb, 0, none⟩)) ++ [.pointer (some ⟨d.pb, 0, none⟩)])) (hg : (w1.alloc ob).grownBy w' v.ownBlock) : PInv w0 w' v' (l ++ [d]) B := by
  have b1 : Blw w (w1.alloc ob) := hb.al _
  have hS : Bs2 (fun k => v.ownBlock = some k) (w1.alloc ob) w' := grown_b2 hg
  have ht : ∀ k, v.ownBlock = some k → ∃ C, (w1.alloc ob).heap[k]? = some (.cells C 47) := by
    intro k hk
    rcases h.own.2 with ⟨rfl, hn⟩ | ⟨g, cap, cur, rfl, hg, hh, _⟩
    · cases hk
    · have : g = k := by simpa [Value.ownBlock] using hk
      subst this; exact ⟨_, b1.bk' hh⟩
  have keep : ∀ e : PD, PairAt w0.heap.size B (w1.alloc ob) e → PairAt w0.heap.size B w' e := by
    intro e he
    obtain ⟨C, hC⟩ := he.cb.blk
    have nS : ∀ k C t, (w1.alloc ob).heap[k]? = some (.cells C t) → t ≠ 47 → ¬ v.ownBlock = some k := by
      intro k C t hk htt e'
      obtain ⟨C', hC'⟩ := ht k e'
      exact ty_ne hk hC' htt rfl
    refine ⟨(hS.block _ (lt_of_blk he.pb) (nS _ _ _ he.pb (by decide))).trans he.pb, (hS.block _ (lt_of_blk he.b) (nS _ _ _ he.b (by decide))).trans he.b, he.cb.b2 hS ?_ (nS _ _ _ hC (by decide)) ?_ (nS _ _ _ he.cb.ackBlk (by decide)), he.me, he.n, he.fine, he.hole, he.had, he.log, he.l1, he.l2, he.l3, he.l4, he.sz⟩
    · intro k C hk hC'; exact nS k C _ hC' (by decide) hk
    · intro g hg'; obtain ⟨_, C', hC'⟩ := he.cb.lateBlk hg'; exact nS g C' _ hC' (by decide)
  refine ⟨?_, ?_, ?_, ?_⟩
  · have := h.bl.tr b1
    refine ⟨hS.os.trans this.os, hS.tape.trans this.tape, hS.output.trans this.output, Nat.le_trans this.sz hS.size, fun k hk => ?_⟩
    rw [hS.block k (Nat.lt_of_lt_of_le hk this.sz) (fun e => by have := (World.ownsRow.lt h.own k e).1; omega)]
    exact this.bk k hk
  · simpa using ho
  · intro e he
    rcases List.mem_append.1 he with he | he
    · exact keep e ((h.all e he).on b1 B (Nat.le_refl _))
    · rw [List.mem_singleton.1 he]; exact keep d (hd.on ((Blw.rfl _).al _) B (Nat.le_refl _))
  · refine List.pairwise_append.2 ⟨h.dis, by simp, ?_⟩
    intro e he f hf
    rw [List.mem_singleton.1 hf]
    have hea := h.all e he
    obtain ⟨C, hC⟩ := hea.cb.blk
    have e1 := lt_of_blk hea.b
    have e2 := lt_of_blk hC
    exact ⟨by omega, by omega, fun g _ => by rw [nl]; simp⟩

/-- A step at one pair. -/
theorem PInv.step {w0 w w1 w' : World} {v : Value} {l : List PD} {B B' : Nat} (h : PInv w0 w v l B) (hb : Blw w w1) (j : Nat) (hj : j < l.length) (hB : B ≤ B') (k : PStep w0.heap.size B' l[j] w1 w') : ∃ l', l'.length = l.length ∧ PInv w0 w' v l' B' := by
  obtain ⟨d', q1, q2, q3, q4, q5⟩ := k.h
  have hd := h.all l[j] (List.getElem_mem hj)
  have hd1 := hd.on hb B (Nat.le_refl _)
  obtain ⟨C, hC⟩ := hd1.cb.blk
  -- what is not of this pair's own
  have nS : ∀ k C t, w1.heap[k]? = some (.cells C t) → t ≠ 69 → t ≠ 123 → t ≠ 120 → t ≠ 3 → ¬ (l[j]).own k := by
    intro k C' t hk t1 t2 t3 t4 e
    rcases e with rfl | rfl | e | rfl
    · exact ty_ne hk hd1.b t1 rfl
    · exact ty_ne hk hC t2 rfl
    · obtain ⟨_, C2, hC2⟩ := hd1.cb.lateBlk e; exact ty_ne hk hC2 t3 rfl
    · exact ty_ne hk hd1.cb.ackBlk t4 rfl
  have keep : ∀ e : PD, e ∈ l → (e.b ≠ l[j].b ∧ e.cb ≠ l[j].cb ∧ ∀ g, e.lt.ownBlock = some g → l[j].lt.ownBlock ≠ some g) → PairAt w0.heap.size B' w' e := by
    intro e he ⟨n1, n2, n3⟩
    have hea := (h.all e he).on hb B' hB
    obtain ⟨C2, hC2⟩ := hea.cb.blk
    have nb : ¬ (l[j]).own e.b := by
      rintro (e' | e' | e' | e')
      · exact n1 e'
      · exact ty_ne hea.b hC (by decide) e'
      · obtain ⟨_, C3, hC3⟩ := hd1.cb.lateBlk e'; exact ty_ne hea.b hC3 (by decide) rfl
      · exact ty_ne hea.b hd1.cb.ackBlk (by decide) e'
    have nc : ¬ (l[j]).own e.cb := by
      rintro (e' | e' | e' | e')
      · exact ty_ne hC2 hd1.b (by decide) e'
      · exact n2 e'
      · obtain ⟨_, C3, hC3⟩ := hd1.cb.lateBlk e'; exact ty_ne hC2 hC3 (by decide) rfl
      · exact ty_ne hC2 hd1.cb.ackBlk (by decide) e'
    have na : ¬ (l[j]).own (e.cb - 1) := by
      have p1 := hea.cb.pos
      have p2 := hd1.cb.pos
      rintro (e' | e' | e' | e')
      · exact ty_ne hea.cb.ackBlk hd1.b (by decide) e'
      · exact ty_ne hea.cb.ackBlk hC (by decide) e'
      · obtain ⟨_, C3, hC3⟩ := hd1.cb.lateBlk e'; exact ty_ne hea.cb.ackBlk hC3 (by decide) rfl
      · exact n2 (by omega)
    refine ⟨(k.bs.block _ (lt_of_blk hea.pb) (nS _ _ _ hea.pb (by decide) (by decide) (by decide) (by decide))).trans hea.pb, (k.bs.block _ (lt_of_blk hea.b) nb).trans hea.b, hea.cb.b2 k.bs ?_ nc ?_ na, hea.me, hea.n, hea.fine, hea.hole, hea.had, hea.log, hea.l1, hea.l2, hea.l3, hea.l4, hea.sz⟩
    · intro i C3 hi hC3; exact nS i C3 _ hC3 (by decide) (by decide) (by decide) (by decide) hi
    · intro g hg
      obtain ⟨_, C3, hC3⟩ := hea.cb.lateBlk hg
      rintro (e' | e' | e' | e')
      · exact ty_ne hC3 hd1.b (by decide) e'
      · exact ty_ne hC3 hC (by decide) e'
      · exact n3 g hg e'
      · exact ty_ne hC3 hd1.cb.ackBlk (by decide) e'
  have hpw := List.pairwise_iff_getElem.1 h.dis
  have sym : ∀ i (hi : i < l.length), i ≠ j → (l[i].b ≠ l[j].b ∧ l[i].cb ≠ l[j].cb ∧ ∀ g, l[i].lt.ownBlock = some g → l[j].lt.ownBlock ≠ some g) := by
    intro i hi hij
    rcases Nat.lt_or_gt_of_ne hij with hlt | hlt
    · exact hpw i j hi hj hlt
    · obtain ⟨a1, a2, a3⟩ := hpw j i hj hi hlt
      exact ⟨fun e => a1 e.symm, fun e => a2 e.symm, fun g hg e => a3 g e hg⟩
  have s1 := hb.sz
  refine ⟨l.set j d', by simp, ⟨?_, ?_, ?_, ?_⟩⟩
  · have := h.bl.tr hb
    refine ⟨k.bs.os.trans this.os, k.bs.tape.trans this.tape, k.bs.output.trans this.output, Nat.le_trans this.sz k.bs.size, fun i hi => ?_⟩
    rw [k.bs.block i (Nat.lt_of_lt_of_le hi this.sz) ?_]
    · exact this.bk i hi
    · have z1 := hd.l1
      have z2 := hd.l2
      rintro (e | e | e | e)
      · omega
      · omega
      · have := hd.l3 i e; omega
      · omega
  · have e0 : ((l.set j d').map fun d => Value.pointer (some ⟨d.pb, 0, none⟩)) = l.map fun d => Value.pointer (some ⟨d.pb, 0, none⟩) := by
      rw [List.map_set, q2]
      have : (Value.pointer (some ⟨l[j].pb, 0, none⟩)) = (l.map fun d => Value.pointer (some ⟨d.pb, 0, none⟩))[j]'(by simpa using hj) := by simp
      rw [this, List.set_getElem_self]
    rw [e0, List.length_set]
    exact own_on (own_on h.own (fun g C _ hC' => hb.bk g (lt_of_blk hC'))) (fun g C' _ hC' => k.bs.block g (lt_of_blk hC') (nS g C' _ hC' (by decide) (by decide) (by decide) (by decide)))
  · intro e he
    obtain ⟨i, hi, rfl⟩ := List.getElem_of_mem he
    rw [List.getElem_set]
    rw [List.length_set] at hi
    split
    · exact q1
    · rename_i hij
      exact keep _ (List.getElem_mem hi) (sym i hi (fun e => hij e.symm))
  · rw [List.pairwise_iff_getElem]
    intro i i' hi hi' hlt
    rw [List.length_set] at hi hi'
    have new : ∀ m (hm : m < l.length), m ≠ j → (l[m].b ≠ d'.b ∧ l[m].cb ≠ d'.cb ∧ ∀ g, l[m].lt.ownBlock = some g → d'.lt.ownBlock ≠ some g) := by
      intro m hm hmj
      obtain ⟨a1, a2, a3⟩ := sym m hm hmj
      refine ⟨by rw [q3]; exact a1, by rw [q4]; exact a2, fun g hg e => ?_⟩
      rcases q5 with q5 | ⟨g', q5, q6⟩
      · exact a3 g hg (by rw [← q5]; exact e)
      · have hm1 := ((h.all _ (List.getElem_mem hm)).cb.lateBlk hg).1
        have : g' = g := by have := q5.symm.trans e; simpa using this
        omega
    rw [List.getElem_set, List.getElem_set]
    split
    · rename_i e; subst e
      rw [if_neg (by omega)]
      obtain ⟨a1, a2, a3⟩ := new i' hi' (by omega)
      exact ⟨fun e => a1 e.symm, fun e => a2 e.symm, fun g hg e => a3 g e hg⟩
    · split
      · rename_i hij e
        exact new i hi (by omega)
      · exact hpw i i' hi hi' hlt
end Go.Proofs.YtalaldfgjgpacaaGreatDoor
