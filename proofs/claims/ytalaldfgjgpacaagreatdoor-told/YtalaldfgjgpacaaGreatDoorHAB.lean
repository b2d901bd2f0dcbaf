import Derived.Test.YtalaldfgjgpacaaGreatDoorHAA
import Derived.Deep.RegionHeld3
import Derived.Deep.Upon
import Derived.Lib.LaidTab
import Derived.Lib.ItoaNum
import Derived.Test.YtalaldfgjgpacaaGreatDoorProg
namespace Go.Proofs.YtalaldfgjgpacaaGreatDoor
set_option linter.unusedVariables false
set_option linter.unusedSimpArgs false
open Go

section
variable {P : Program} {ops : Array Oper} {Q : Exit → Act → World → Prop} {md : Region.Mode} {S : World → Prop} {L : Nat}

/-- Whatever order is picked, and S holds behind each operation but number L. -/
def anyL (P : Program) (md : Region.Mode) (ops : Array Oper) (Q : Exit → Act → World → Prop) (S : World → Prop) (L : Nat) : Nat → Array Bool → Act → World → Prop
  | 0, listed, a, w => Region.ready md ops listed = [] ∧ Q .normal a w
  | fuel + 1, listed, a, w =>
    (Region.ready md ops listed = [] → Q .normal a w) ∧
    ∀ i ∈ Region.ready md ops listed, wpOp P ops Q i (fun a' w' => (i ≠ L → S w') ∧ anyL P md ops Q S L fuel (listed.setIfInBounds i true) a' w') a w

theorem any_of_L : ∀ (fuel : Nat) (listed : Array Bool) (a : Act) (w : World), anyL P md ops Q S L fuel listed a w → wpAny P md ops Q fuel listed a w
  | 0, _, _, _, h => h
  | fuel + 1, _, _, _, h => ⟨h.1, fun i hi => wpOp_mono (fun a' w' h' => any_of_L fuel _ a' w' h'.2) (h.2 i hi)⟩

/-- L waits for i. -/
def waitsB (md : Region.Mode) (ops : Array Oper) (L i : Nat) : Bool := (ops[L]?.map fun o => o.after.any fun e => Region.binds md e && e.on == i).getD false

theorem anyL_first {i : Nat} {oi : Oper} {v : Value} (hi : ops[i]? = some oi) (hsel : ∀ (j : Nat) (o : Oper) cs b, ops[j]? = some o → o.op ≠ .select cs b)
    (hQ : ∀ c a w, Q (.panic c) (a.put oi.dst v) w → Q (.panic c) a w) (hL : waitsB md ops L i = true) (fuel : Nat) : ∀ (listed : Array Bool) (a : Act) (w : World),
      (∀ j oj, ops[j]? = some oj → j ≠ i → listed.getD j true = false → (∀ e ∈ oj.after, Region.binds md e = true → e.on ≠ i) → oi.apart ops oj = true) →
      i ∈ Region.ready md ops listed → YieldsIf P ops S oi v a → S w →
      anyL P md ops Q S L fuel (listed.setIfInBounds i true) (a.put oi.dst v) w → anyL P md ops Q S L (fuel + 1) listed a w := by
  induction fuel with
  | zero =>
    intro listed a w _ hr hy hS H
    refine ⟨fun h => (by rw [h] at hr; cases hr), fun j hj => ?_⟩
    by_cases hji : j = i
    · subst hji; exact hy.wpOp hi hS ⟨fun _ => hS, H⟩
    · have h0 := ready_mono hj hji
      rw [H.1] at h0
      cases h0
  | succ fuel ih =>
    intro listed a w hfree hr hy hS H
    refine ⟨fun h => (by rw [h] at hr; cases hr), fun j hj => ?_⟩
    by_cases hji : j = i
    · subst hji; exact hy.wpOp hi hS ⟨fun _ => hS, H⟩
    · have h1 := H.2 j (ready_mono hj hji)
      obtain ⟨hjun, oj, hoj, hall⟩ := mem_ready.1 hj
      have hnot : ∀ e ∈ oj.after, Region.binds md e = true → e.on ≠ i := by
        intro e he hb heq
        have k1 := hall e he hb
        have k0 := (mem_ready.1 hr).1
        rw [heq] at k1
        rcases Nat.lt_or_ge i listed.size with h' | h'
        · simp [h'] at k0 k1; rw [k0] at k1; cases k1
        · simp [Array.getElem?_eq_none h'] at k1
      have hjL : j ≠ L := by
        rintro rfl
        unfold waitsB at hL
        rw [hoj] at hL
        simp only [Option.map_some, Option.getD_some] at hL
        obtain ⟨e, he, hk⟩ := Array.any_eq_true'.1 hL
        simp only [Bool.and_eq_true, beq_iff_eq] at hk
        exact hnot e he hk.1 hk.2
      have hri : i ∈ Region.ready md ops (listed.setIfInBounds j true) := ready_mono hr (Ne.symm hji)
      have h2 := wpOp_putIf hoj (hfree j oj hoj hji hjun hnot) (fun cs b => hsel i oi cs b hi) (fun cs b => hsel j oj cs b hoj) hQ hy h1
      have hfree' : ∀ k ok, ops[k]? = some ok → k ≠ i → (listed.setIfInBounds j true).getD k true = false →
          (∀ e ∈ ok.after, Region.binds md e = true → e.on ≠ i) → oi.apart ops ok = true := by
        intro k ok hk hki hun hno
        refine hfree k ok hk hki ?_ hno
        by_cases hjk : j = k
        · subst hjk; exact hjun
        · rw [getD_set_ne true hjk] at hun; exact hun
      refine wpOp_mono (fun a' w' h3 => ⟨fun _ => h3.2.1 hjL, ih (listed.setIfInBounds j true) a' w' hfree' hri h3.1 (h3.2.1 hjL) ?_⟩) h2
      rw [Array.setIfInBounds_comm _ _ hji]
      exact h3.2.2

/-- Number i is taken first. -/
theorem anyL_take {i : Nat} {d : Option Tmp} {op : Op} {ty : TypeId} {po : String} {af : Array Edge} {gd : Option (Nat × Bool)} {v : Value} {fuel : Nat} {listed : Array Bool} {a : Act} {w : World} (hi : ops[i]? = some ⟨d, op, ty, po, af, gd⟩)
    (hs : Region.noSelect ops = true) (hf : Region.free md ops listed i = true) (hr : (Region.ready md ops listed).contains i = true) (hL : waitsB md ops L i = true)
    (hQ : ∀ c a w, Q (.panic c) (a.put d v) w → Q (.panic c) a w) (hS : S w) (hy : YieldsIf P ops S ⟨d, op, ty, po, af, gd⟩ v a)
    (h : anyL P md ops Q S L fuel (listed.setIfInBounds i true) (a.put d v) w) : anyL P md ops Q S L (fuel + 1) listed a w :=
  anyL_first hi (Region.noSelect_spec hs) hQ hL fuel listed a w (Region.free_spec hi hf) (by simpa using hr) hy hS h

/-- One alone may come up. -/
theorem anyL_one {i : Nat} {d : Option Tmp} {op : Op} {ty : TypeId} {po : String} {af : Array Edge} {gd : Option (Nat × Bool)} {fuel : Nat} {listed : Array Bool} {a : Act} {w : World} (hr : Region.ready md ops listed = [i]) (ho : ops[i]? = some ⟨d, op, ty, po, af, gd⟩)
    (h : ∀ K' : Act → World → Prop, Shut (∀ a w, (i ≠ L → S w) → anyL P md ops Q S L fuel (listed.setIfInBounds i true) a w → K' a w) → if Region.wanted ⟨d, op, ty, po, af, gd⟩ (yielded ops a.tmps) = true then Oper.wp P ⟨d, op, ty, po, af, gd⟩ a w K' Q else K' (a.put d undef) w) : anyL P md ops Q S L (fuel + 1) listed a w := by
  refine ⟨fun h0 => (by rw [hr] at h0; cases h0), fun j hj => ?_⟩
  rw [hr] at hj
  rw [List.mem_singleton.1 hj]
  exact wpOp_step ho fun K' hK => h K' (fun a w h1 h2 => hK a w ⟨h1, h2⟩)
/-- Two may come up. -/
theorem anyL_pair {i j : Nat} {d : Option Tmp} {op : Op} {ty : TypeId} {po : String} {af : Array Edge} {gd : Option (Nat × Bool)} {d' : Option Tmp} {op' : Op} {ty' : TypeId} {po' : String} {af' : Array Edge} {gd' : Option (Nat × Bool)} {fuel : Nat} {listed : Array Bool} {a : Act} {w : World} (hr : Region.ready md ops listed = [i, j]) (ho : ops[i]? = some ⟨d, op, ty, po, af, gd⟩) (ho' : ops[j]? = some ⟨d', op', ty', po', af', gd'⟩)
    (h : ∀ K' : Act → World → Prop, Shut (∀ a w, (i ≠ L → S w) → anyL P md ops Q S L fuel (listed.setIfInBounds i true) a w → K' a w) → if Region.wanted ⟨d, op, ty, po, af, gd⟩ (yielded ops a.tmps) = true then Oper.wp P ⟨d, op, ty, po, af, gd⟩ a w K' Q else K' (a.put d undef) w)
    (h' : ∀ K' : Act → World → Prop, Shut (∀ a w, (j ≠ L → S w) → anyL P md ops Q S L fuel (listed.setIfInBounds j true) a w → K' a w) → if Region.wanted ⟨d', op', ty', po', af', gd'⟩ (yielded ops a.tmps) = true then Oper.wp P ⟨d', op', ty', po', af', gd'⟩ a w K' Q else K' (a.put d' undef) w) : anyL P md ops Q S L (fuel + 1) listed a w := by
  refine ⟨fun h0 => (by rw [hr] at h0; cases h0), fun k hk => ?_⟩
  rw [hr] at hk
  rcases List.mem_cons.1 hk with e | e
  · rw [e]
    exact wpOp_step ho fun K' hK => h K' (fun a w h1 h2 => hK a w ⟨h1, h2⟩)
  · rw [List.mem_singleton.1 e]
    exact wpOp_step ho' fun K' hK => h' K' (fun a w h1 h2 => hK a w ⟨h1, h2⟩)
theorem anyL_done {listed : Array Bool} {a : Act} {w : World} (hr : Region.ready md ops listed = []) (h : Q .normal a w) : ∀ fuel, anyL P md ops Q S L fuel listed a w
  | 0 => ⟨hr, h⟩
  | _ + 1 => ⟨fun _ => h, by rw [hr]; simp⟩
/-- The beginning. -/
theorem wp_region_L {id : Nat} {a : Act} {w : World} (hm : P.follows .mixedOrders = true)
    (h : anyL P .any ops Q S L ops.size (Array.replicate ops.size false) a w.drew) : (Code.region id ops true).wp P Q a w :=
  wp_region_any hm (any_of_L _ _ _ _ h)
end
end Go.Proofs.YtalaldfgjgpacaaGreatDoor

namespace Go.Proofs.YtalaldfgjgpacaaGreatDoor
set_option linter.unusedVariables false
set_option linter.unusedSimpArgs false

/-- Texts, as lists of bytes. -/
abbrev Bs : Type := List UInt8

def Srt (l : List Bs) : Prop := l.Pairwise (· < ·)

/-- The list with s in its place. -/
def withL : List Bs → Bs → List Bs
  | [], s => [s]
  | x :: l, s => if s < x then s :: x :: l else x :: withL l s

theorem lt_irr (x : Bs) : ¬ x < x := List.lt_irrefl x
theorem lt_tr {x y z : Bs} (h : x < y) (k : y < z) : x < z := List.lt_trans h k
theorem lt_tri {x y : Bs} (h : ¬ x < y) (k : ¬ y < x) : x = y := List.le_antisymm (by simpa using k) (by simpa using h)

theorem mem_withL (l : List Bs) (s x : Bs) : x ∈ withL l s ↔ x = s ∨ x ∈ l := by
  induction l with
  | nil => simp [withL]
  | cons y l ih =>
    unfold withL
    split
    · simp
    · simp only [List.mem_cons, ih]
      constructor
      · rintro (h | h | h)
        · exact .inr (.inl h)
        · exact .inl h
        · exact .inr (.inr h)
      · rintro (h | h | h)
        · exact .inr (.inl h)
        · exact .inl h
        · exact .inr (.inr h)

theorem srt_withL {l : List Bs} {s : Bs} (h : Srt l) (hs : s ∉ l) : Srt (withL l s) := by
  induction l with
  | nil => simp [withL, Srt]
  | cons y l ih =>
    unfold Srt at h ih ⊢
    rw [List.pairwise_cons] at h
    unfold withL
    split
    · rename_i hlt
      refine List.pairwise_cons.2 ⟨?_, List.pairwise_cons.2 h⟩
      intro a ha
      rcases List.mem_cons.1 ha with rfl | ha
      · exact hlt
      · exact lt_tr hlt (h.1 a ha)
    · rename_i hlt
      refine List.pairwise_cons.2 ⟨?_, ih h.2 (fun hm => hs (List.mem_cons_of_mem _ hm))⟩
      intro a ha
      rcases (mem_withL l s a).1 ha with rfl | ha
      · rcases Classical.em (y < a) with h1 | h1
        · exact h1
        · exact absurd (lt_tri h1 hlt) (fun e => hs (by rw [e]; exact List.mem_cons_self))
      · exact h.1 a ha

theorem withL_len (l : List Bs) (s : Bs) : (withL l s).length = l.length + 1 := by
  induction l with
  | nil => rfl
  | cons y l ih =>
    unfold withL
    split
    · simp
    · simp [ih]

theorem srt_ext {a b : List Bs} (ha : Srt a) (hb : Srt b) (h : ∀ x, x ∈ a ↔ x ∈ b) : a = b := by
  induction a generalizing b with
  | nil =>
    cases b with
    | nil => rfl
    | cons y b => exact absurd ((h y).2 List.mem_cons_self) (by simp)
  | cons x a ih =>
    cases b with
    | nil => exact absurd ((h x).1 List.mem_cons_self) (by simp)
    | cons y b =>
      unfold Srt at ha hb
      rw [List.pairwise_cons] at ha hb
      have hxy : x = y := by
        rcases List.mem_cons.1 ((h x).1 List.mem_cons_self) with e | e
        · exact e
        · rcases List.mem_cons.1 ((h y).2 List.mem_cons_self) with e' | e'
          · exact e'.symm
          · exact absurd (lt_tr (hb.1 x e) (ha.1 y e')) (lt_irr _)
      subst hxy
      congr 1
      refine ih ha.2 hb.2 fun z => ?_
      constructor
      · intro hz
        rcases List.mem_cons.1 ((h z).1 (List.mem_cons_of_mem _ hz)) with e | e
        · subst e; exact absurd (ha.1 z hz) (lt_irr _)
        · exact e
      · intro hz
        rcases List.mem_cons.1 ((h z).2 (List.mem_cons_of_mem _ hz)) with e | e
        · subst e; exact absurd (hb.1 z hz) (lt_irr _)
        · exact e

theorem srt_nodup {a : List Bs} (ha : Srt a) : a.Nodup := by
  unfold Srt at ha
  exact ha.imp (fun {x y} h e => by subst e; exact lt_irr _ h)

theorem srt_app {a b : List Bs} (ha : Srt a) (hb : Srt b) (h : ∀ x ∈ a, ∀ y ∈ b, x < y) : Srt (a ++ b) :=
  List.pairwise_append.2 ⟨ha, hb, h⟩

def hasL (l : List Bs) (s : Bs) : Bool := l.contains s

theorem hasL_iff (l : List Bs) (s : Bs) : hasL l s = true ↔ s ∈ l := by simp [hasL]
theorem hasL_not (l : List Bs) (s : Bs) : hasL l s = false ↔ s ∉ l := by simp [hasL]

/-- All of l that c takes, put in one behind the other, under f. -/
def insAll (f : Bs → Bs) (c : Bs → Bool) (out l : List Bs) : List Bs := l.foldl (fun o e => if c e then withL o (f e) else o) out

theorem insAll_nil (f : Bs → Bs) (c : Bs → Bool) (out : List Bs) : insAll f c out [] = out := rfl
theorem insAll_cons (f : Bs → Bs) (c : Bs → Bool) (out : List Bs) (e : Bs) (l : List Bs) : insAll f c out (e :: l) = insAll f c (if c e then withL out (f e) else out) l := rfl
theorem insAll_app (f : Bs → Bs) (c : Bs → Bool) (out a b : List Bs) : insAll f c out (a ++ b) = insAll f c (insAll f c out a) b := by simp [insAll, List.foldl_append]

theorem insAll_len (f : Bs → Bs) (c : Bs → Bool) (l : List Bs) : ∀ out, (insAll f c out l).length ≤ out.length + l.length := by
  induction l with
  | nil => intro out; simp [insAll_nil]
  | cons e l ih =>
    intro out
    rw [insAll_cons]
    have := ih (if c e then withL out (f e) else out)
    split at this
    · rename_i h
      rw [withL_len] at this
      rw [if_pos h]
      simp; omega
    · rename_i h
      rw [if_neg h]
      simp; omega

theorem mem_insAll (f : Bs → Bs) (c : Bs → Bool) (l : List Bs) : ∀ out x, x ∈ insAll f c out l ↔ x ∈ out ∨ ∃ e ∈ l, c e = true ∧ x = f e := by
  induction l with
  | nil => intro out x; simp [insAll_nil]
  | cons e l ih =>
    intro out x
    rw [insAll_cons, ih]
    cases hc : c e with
    | false => simp [hc]
    | true =>
      simp only [if_true, mem_withL, List.mem_cons, exists_eq_or_imp, hc, true_and]
      constructor
      · rintro ((h | h) | h)
        · exact .inr (.inl h)
        · exact .inl h
        · exact .inr (.inr h)
      · rintro (h | h | h)
        · exact .inl (.inr h)
        · exact .inl (.inl h)
        · exact .inr h

theorem srt_insAll (f : Bs → Bs) (c : Bs → Bool) (l : List Bs) : ∀ out, Srt out → (∀ e ∈ l, c e = true → f e ∉ out) → l.Pairwise (fun a b => c a = true → c b = true → f a ≠ f b) → Srt (insAll f c out l) := by
  induction l with
  | nil => intro out h _ _; exact h
  | cons e l ih =>
    intro out h hn hp
    rw [List.pairwise_cons] at hp
    rw [insAll_cons]
    cases hc : c e with
    | false =>
      simp only [Bool.false_eq_true, if_false]
      exact ih _ h (fun a ha => hn a (List.mem_cons_of_mem _ ha)) hp.2
    | true =>
      simp only [if_true]
      refine ih _ (srt_withL h (hn e List.mem_cons_self hc)) (fun a ha hca hm => ?_) hp.2
      rcases (mem_withL _ _ _).1 hm with e' | e'
      · exact hp.1 a ha hc hca e'.symm
      · exact hn a (List.mem_cons_of_mem _ ha) hca e'

/-- A dot of an entry. -/
def dotOf (e : Bs) : Bs := (e.drop 2).take 2

def joinD (D D' : List Bs) : List Bs := insAll id (fun d => !hasL D d) D D'
def joinE (D E D' E' : List Bs) : List Bs :=
  insAll id (fun e => !hasL D (dotOf e)) (insAll id (fun e => hasL E' e || !hasL D' (dotOf e)) [] E) E'

def flatL (l : List Bs) : Bs := l.flatten

end Go.Proofs.YtalaldfgjgpacaaGreatDoor

namespace Go.Proofs.YtalaldfgjgpacaaGreatDoor
set_option linter.unusedVariables false
set_option linter.unusedSimpArgs false
open Go.RowKit

/-- What a replica has beside what it holds: how many deltas it has had, its log, its deltas since New or Open (the last one first), what each has acknowledged. -/
structure Ext where
  had : Nat
  log : List UInt8
  late : List Pc
  ack : Nat → Nat
/-- The delta at a place of what is remembered. -/
def Ext.lat (x : Ext) (k : Nat) : Pc := x.late.getD k Pc.empty
def Ext.kept (x : Ext) : Nat := min 4 x.late.length
def Ext.tail (x : Ext) : List Value := [.int .i64 x.kept, .int .i64 (x.ack 0), .int .i64 (x.ack 1), .int .i64 (x.ack 2)]
def Ext.recs (x : Ext) : List Value := (x.lat 0).cells ++ ((x.lat 1).cells ++ ((x.lat 2).cells ++ (x.lat 3).cells))
def Ext.cells (x : Ext) : List Value := [.int .i64 x.had, .string ⟨x.log.toArray⟩] ++ (x.recs ++ x.tail)
theorem Ext.recs_len (x : Ext) : x.recs.length = 540 := by simp [Ext.recs, Pc.len]
theorem Ext.cells_len (x : Ext) : x.cells.length = 546 := by simp [Ext.cells, Ext.recs_len, Ext.tail]

/-- A replica's row. -/
def repCells (me n : Nat) (p : Pc) (x : Ext) : List Value := ([.int .i64 me, .int .i64 n] ++ p.cells) ++ x.cells
def repArr (me n : Nat) (p : Pc) (x : Ext) : Array Value := (repCells me n p x).toArray

variable {xt : Ext}

theorem repArr_size (me n : Nat) (p : Pc) : (repArr me n p xt).size = 683 := by simp [repArr, repCells, Pc.len, Ext.cells_len]

theorem rep_me {w : World} {b me n : Nat} {p : Pc} {t : TypeId} (h : w.heap[b]? = some (.cells (repArr me n p xt) t)) : w.cell? ⟨b, 0, none⟩ = some (.int .i64 me) := by
  rw [blk_cell h]; rfl
theorem rep_n {w : World} {b me n : Nat} {p : Pc} {t : TypeId} (h : w.heap[b]? = some (.cells (repArr me n p xt) t)) : w.cell? ⟨b, 1, none⟩ = some (.int .i64 n) := by
  rw [blk_cell h]; rfl
theorem rep_at_ext (me n : Nat) (p : Pc) (k : Nat) : (repArr me n p xt)[137 + k]? = xt.cells[k]? := by
  simp only [repArr, repCells, List.getElem?_toArray]
  rw [List.getElem?_append_right (by simp [Pc.len])]
  have : 137 + k - ([Value.int .i64 (me : Int), Value.int .i64 (n : Int)] ++ p.cells).length = k := by simp [Pc.len]
  rw [this]
theorem rep_at_lo (me n : Nat) (p : Pc) (j : Nat) (h : j < 137) : (repArr me n p xt)[j]? = ([Value.int .i64 (me : Int), Value.int .i64 (n : Int)] ++ p.cells)[j]? := by
  simp only [repArr, repCells, List.getElem?_toArray]
  exact List.getElem?_append_left (by simp [Pc.len]; omega)
theorem rep_had {w : World} {b me n : Nat} {p : Pc} {t : TypeId} (h : w.heap[b]? = some (.cells (repArr me n p xt) t)) : w.cell? ⟨b, 137, none⟩ = some (.int .i64 xt.had) := by
  rw [blk_cell h]; exact rep_at_ext me n p 0
theorem rep_log {w : World} {b me n : Nat} {p : Pc} {t : TypeId} (h : w.heap[b]? = some (.cells (repArr me n p xt) t)) : w.cell? ⟨b, 138, none⟩ = some (.string ⟨xt.log.toArray⟩) := by
  rw [blk_cell h]; exact rep_at_ext me n p 1
theorem rep_range {w : World} {b me n : Nat} {p : Pc} {t : TypeId} (h : w.heap[b]? = some (.cells (repArr me n p xt) t)) : w.rangeAt b 2 p.cells := by
  intro j v hv
  rw [blk_cell h]
  have hj : j < 135 := by
    have := (List.getElem?_eq_some_iff.1 hv).1; rw [Pc.len] at this; exact this
  simp only [repArr, repCells, List.getElem?_toArray]
  rw [List.getElem?_append_left (by simp [Pc.len]; omega), List.getElem?_append_right (by simp)]
  simpa using hv
theorem rep_there {w : World} {b me n : Nat} {p : Pc} {t : TypeId} (h : w.heap[b]? = some (.cells (repArr me n p xt) t)) : w.there b 2 135 := by
  intro j hj
  refine ⟨?_, blk_frozen h _⟩
  rw [blk_cell h]
  have := repArr_size (xt := xt) me n p
  simp; omega
theorem pc_range {w : World} {b : Nat} {p : Pc} {t : TypeId} (h : w.heap[b]? = some (.cells p.arr t)) : w.rangeAt b 0 p.cells := by
  intro j v hv
  rw [blk_cell h]
  simpa [Pc.arr] using hv
theorem pc_there {w : World} {b : Nat} {C : Array Value} {t : TypeId} (h : w.heap[b]? = some (.cells C t)) (hC : C.size = 135) : w.there b 0 135 := by
  intro j hj
  refine ⟨?_, blk_frozen h _⟩
  rw [blk_cell h]
  simp; omega

theorem rep_splice (me n : Nat) (p q : Pc) : splice (repArr me n p xt) 2 q.cells = repArr me n q xt := by
  refine Array.ext_getElem? fun j => ?_
  rw [splice_at _ _ _ _ (by rw [repArr_size, Pc.len]; decide), Pc.len]
  by_cases h : 2 ≤ j ∧ j < 2 + 135
  · rw [if_pos h]
    simp only [repArr, repCells, List.getElem?_toArray]
    rw [List.getElem?_append_left (by simp [Pc.len]; omega), List.getElem?_append_right (by simp; omega)]
    simp
  · rw [if_neg h]
    by_cases h2 : j < 2
    · rw [rep_at_lo _ _ _ _ (by omega), rep_at_lo _ _ _ _ (by omega), List.getElem?_append_left (by simpa using h2), List.getElem?_append_left (by simpa using h2)]
    · by_cases h3 : j < 683
      · obtain ⟨k, rfl⟩ : ∃ k, j = 137 + k := ⟨j - 137, by omega⟩
        rw [rep_at_ext, rep_at_ext]
      · rw [Array.getElem?_eq_none (by rw [repArr_size]; omega), Array.getElem?_eq_none (by rw [repArr_size]; omega)]

/-- What a store beside what is held leaves. -/
theorem rep_set (me n : Nat) (p : Pc) (y : Ext) (k : Nat) (v : Value) (hk : k < 546) (hy : y.cells = xt.cells.set k v) : (repArr me n p xt).setIfInBounds (137 + k) v = repArr me n p y := by
  refine Array.ext_getElem? fun j => ?_
  rw [Array.getElem?_setIfInBounds]
  by_cases h : 137 + k = j
  · subst h
    rw [if_pos rfl, if_pos (by rw [repArr_size]; omega), rep_at_ext, hy, List.getElem?_set_self (by rw [Ext.cells_len]; exact hk)]
  · rw [if_neg h]
    by_cases h2 : j < 137
    · rw [rep_at_lo _ _ _ _ (by omega), rep_at_lo _ _ _ _ (by omega)]
    · by_cases h3 : j < 683
      · obtain ⟨m, rfl⟩ : ∃ m, j = 137 + m := ⟨j - 137, by omega⟩
        rw [rep_at_ext, rep_at_ext, hy, List.getElem?_set_ne (by omega)]
      · rw [Array.getElem?_eq_none (by rw [repArr_size]; omega), Array.getElem?_eq_none (by rw [repArr_size]; omega)]

/-- The cells of what is remembered. -/
theorem recs_at (x : Ext) (k j : Nat) (hk : k < 4) (hj : j < 135) : x.recs[k * 135 + j]? = (x.lat k).cells[j]? := by
  have l : ∀ i, (x.lat i).cells.length = 135 := fun i => Pc.len _
  unfold Ext.recs
  match k, hk with
  | 0, _ => rw [List.getElem?_append_left (by rw [l]; omega)]; simp
  | 1, _ =>
    rw [List.getElem?_append_right (by rw [l]; omega), List.getElem?_append_left (by rw [l, l]; omega), l, show 1 * 135 + j - 135 = j by omega]
  | 2, _ =>
    rw [List.getElem?_append_right (by rw [l]; omega), List.getElem?_append_right (by rw [l, l]; omega), List.getElem?_append_left (by rw [l, l, l]; omega), l, l, show 2 * 135 + j - 135 - 135 = j by omega]
  | 3, _ =>
    rw [List.getElem?_append_right (by rw [l]; omega), List.getElem?_append_right (by rw [l, l]; omega), List.getElem?_append_right (by rw [l, l, l]; omega), l, l, l, show 3 * 135 + j - 135 - 135 - 135 = j by omega]
theorem rep_at_rec (me n : Nat) (p : Pc) (k j : Nat) (hk : k < 4) (hj : j < 135) : (repArr me n p xt)[139 + k * 135 + j]? = (xt.lat k).cells[j]? := by
  have e : 139 + k * 135 + j = 137 + (2 + (k * 135 + j)) := by omega
  rw [e, rep_at_ext, Ext.cells, List.getElem?_append_right (by simp)]
  have e2 : 2 + (k * 135 + j) - [Value.int .i64 (xt.had : Int), Value.string ⟨xt.log.toArray⟩].length = k * 135 + j := by simp
  rw [e2, List.getElem?_append_left (by rw [Ext.recs_len]; omega), recs_at _ _ _ hk hj]
theorem rep_at_tail (me n : Nat) (p : Pc) (k : Nat) : (repArr me n p xt)[679 + k]? = xt.tail[k]? := by
  have e : 679 + k = 137 + (2 + (540 + k)) := by omega
  rw [e, rep_at_ext, Ext.cells, List.getElem?_append_right (by simp)]
  have e2 : 2 + (540 + k) - [Value.int .i64 (xt.had : Int), Value.string ⟨xt.log.toArray⟩].length = 540 + k := by simp
  rw [e2, List.getElem?_append_right (by rw [Ext.recs_len]; omega), Ext.recs_len, show 540 + k - 540 = k by omega]
theorem rep_kept {w : World} {b me n : Nat} {p : Pc} {t : TypeId} (h : w.heap[b]? = some (.cells (repArr me n p xt) t)) : w.cell? ⟨b, 679, none⟩ = some (.int .i64 xt.kept) := by
  rw [blk_cell h]; exact rep_at_tail me n p 0
theorem rep_ack {w : World} {b me n : Nat} {p : Pc} {t : TypeId} (h : w.heap[b]? = some (.cells (repArr me n p xt) t)) (r : Nat) (hr : r < 3) : w.cell? ⟨b, 680 + r, none⟩ = some (.int .i64 (xt.ack r)) := by
  rw [blk_cell h]
  have e : 680 + r = 679 + (1 + r) := by omega
  rw [e, rep_at_tail]
  match r, hr with
  | 0, _ => rfl
  | 1, _ => rfl
  | 2, _ => rfl

/-- Two rows are one, part by part. -/
theorem rep_ext (C : Array Value) (me n : Nat) (p : Pc) (x : Ext) (h0 : C[0]? = some (.int .i64 me)) (h1 : C[1]? = some (.int .i64 n)) (hp : ∀ j, j < 135 → C[2 + j]? = p.cells[j]?) (h2 : C[137]? = some (.int .i64 x.had)) (h3 : C[138]? = some (.string ⟨x.log.toArray⟩))
    (hr : ∀ k j, k < 4 → j < 135 → C[139 + k * 135 + j]? = (x.lat k).cells[j]?) (ht : ∀ k, k < 4 → C[679 + k]? = x.tail[k]?) (hs : C.size = 683) : C = repArr me n p x := by
  refine Array.ext_getElem? fun j => ?_
  by_cases h : j < 2
  · rw [rep_at_lo _ _ _ _ (by omega)]
    match j, h with
    | 0, _ => exact h0
    | 1, _ => exact h1
  · by_cases h' : j < 137
    · obtain ⟨k, rfl⟩ : ∃ k, j = 2 + k := ⟨j - 2, by omega⟩
      rw [hp k (by omega), rep_at_lo _ _ _ _ h', List.getElem?_append_right (by simp)]
      simp
    · by_cases h2' : j < 139
      · have : j = 137 ∨ j = 138 := by omega
        rcases this with rfl | rfl
        · rw [h2]; exact (rep_at_ext (xt := x) me n p 0).symm
        · rw [h3]; exact (rep_at_ext (xt := x) me n p 1).symm
      · by_cases h4 : j < 679
        · obtain ⟨k, m, hk, hm, rfl⟩ : ∃ k m, k < 4 ∧ m < 135 ∧ j = 139 + k * 135 + m := ⟨(j - 139) / 135, (j - 139) % 135, by omega, by omega, by omega⟩
          rw [hr k m hk hm, rep_at_rec _ _ _ _ _ hk hm]
        · by_cases h5 : j < 683
          · obtain ⟨k, rfl⟩ : ∃ k, j = 679 + k := ⟨j - 679, by omega⟩
            rw [ht k (by omega), rep_at_tail]
          · rw [Array.getElem?_eq_none (by omega), Array.getElem?_eq_none (by rw [repArr_size]; omega)]

/-- Everything below but block b is as it was. -/
structure Bx (b : Nat) (a w : World) : Prop where
  os : w.os = a.os
  tape : w.tape = a.tape
  output : w.output = a.output
  size : a.heap.size ≤ w.heap.size
  block : ∀ k, k < a.heap.size → k ≠ b → w.heap[k]? = a.heap[k]?

theorem Blw.bx {a w : World} (h : Blw a w) (b : Nat) : Bx b a w := ⟨h.os, h.tape, h.output, h.size, fun k hk _ => h.block k hk⟩
theorem Bx.rfl (b : Nat) (a : World) : Bx b a a := ⟨_root_.rfl, _root_.rfl, _root_.rfl, Nat.le_refl _, fun _ _ _ => _root_.rfl⟩
theorem Bx.tr {b : Nat} {u v w : World} (h : Bx b u v) (k : Bx b v w) : Bx b u w :=
  ⟨k.os.trans h.os, k.tape.trans h.tape, k.output.trans h.output, Nat.le_trans h.size k.size, fun i hi hb => (k.block i (Nat.lt_of_lt_of_le hi h.size) hb).trans (h.block i hi hb)⟩
theorem Bx.scs {b : Nat} {a w : World} (h : Bx b a w) (o : Nat) (vs : List Value) : Bx b a (w.setCells b o vs) := by
  refine ⟨?_, ?_, ?_, ?_, ?_⟩
  · rw [World.os_setCells]; exact h.os
  · have : ∀ (vs : List Value) (o : Nat) (w : World), (w.setCells b o vs).tape = w.tape := by
      intro vs; induction vs with
      | nil => intro o w; rfl
      | cons v r ih => intro o w; exact (ih _ _).trans _root_.rfl
    rw [this]; exact h.tape
  · rw [World.output_setCells]; exact h.output
  · rw [size_setCells]; exact h.size
  · intro k hk hb; rw [heap_setCells_ne _ hb]; exact h.block k hk hb

/-- A table of the library's. -/
def Tab (P : Program) (w : World) : Prop := Lib.TabIs P w "internal/strconv.uint64pow10" .u64 Lib.pow10Tab

theorem Tab.on {P : Program} {w w' : World} (h : Tab P w) (hb : ∀ g, P.globalNamed "internal/strconv.uint64pow10" = some g → w'.heap[g]? = w.heap[g]?) : Tab P w' := by
  unfold Tab Lib.TabIs World.var? at *
  cases hg : P.globalNamed "internal/strconv.uint64pow10" with
  | none => rw [hg] at h; simp at h
  | some g => rw [hg] at h; simp only [Option.bind_some] at h ⊢; rw [hb g hg]; exact h

/-- The digits of a token. -/
def isDigB (c : UInt8) : Bool := 48 ≤ c && c ≤ 57
def isTok (n : Nat) (l : List UInt8) : Bool := l.length == n && l.all isDigB
def staleTo (p : Pc) (l : List UInt8) : Nat → Bool
  | 0 => false
  | k + 1 => staleTo p l k || decide (p.count (k : Int) < (l.getD k 0).toNat - 48)
def tokErr (n : Nat) (p : Pc) (l : List UInt8) : Int := if isTok n l then (if staleTo p l l.length then 3 else 0) else 2
def evErr (me n : Nat) (p : Pc) (l : List UInt8) : Int := if tokErr n p l = 0 then (if 9 ≤ p.count (me : Int) then 4 else 0) else tokErr n p l

/-- The digits of State. -/
def Pc.digsTo (p : Pc) : Nat → List UInt8
  | 0 => []
  | k + 1 => p.digsTo k ++ [dig (p.count (k : Int))]

theorem digsTo_len (p : Pc) (k : Nat) : (p.digsTo k).length = k := by
  induction k with
  | zero => rfl
  | succ k ih => simp [Pc.digsTo, ih]

end Go.Proofs.YtalaldfgjgpacaaGreatDoor

namespace Go.Proofs.YtalaldfgjgpacaaGreatDoor
set_option linter.unusedVariables false
set_option linter.unusedSimpArgs false
open Go.RowKit

set_option maxHeartbeats 400000 in
theorem isOf_any (s : Sl) (c it : Int) (w : World) :
    Calls Tryz.prog 134 #[.agg s.cells.toArray, .int .i64 c, .int .i64 it] w fun e w' => e = .returned (.bool (s.isOf c it)) ∧ w' = w.alloc (.cells s.cells.toArray 61) := by
  obtain ⟨k, f, a, b, v⟩ := s
  unfold Sl.isOf Sl.cells
  cases f
  · go_enter Tryz.func134, Tryz.ntmps134
    go_wp2
    go_ret
    exact ⟨rfl, rfl⟩
  · by_cases h1 : a = c
    · have h1' : (a == c) = true := by simp [h1]
      have H : Hid (a = c) := h1
      clear h1
      go_enter Tryz.func134, Tryz.ntmps134
      go_wp2
      go_ret
      simp [h1']
    · have h1' : (a == c) = false := by simp [h1]
      clear h1
      go_enter Tryz.func134, Tryz.ntmps134
      go_wp2
      go_ret
      simp [h1']

theorem eq59 (f f' : Bool) (c i v c' i' v' : Int) (wx : World) : (binOp .eql 61 (.agg #[.bool true, .bool f, .int .i64 c, .int .i64 i, .int .i64 v]) (.agg #[.bool true, .bool f', .int .i64 c', .int .i64 i', .int .i64 v'])).run Tryz.prog wx = .ok (.bool (f == f' && (c == c' && (i == i' && v == v')))) wx := by
  by_cases h1 : f = f' <;> by_cases h2 : c = c' <;> by_cases h3 : i = i' <;> by_cases h4 : v = v' <;> simp [go_sem, h1, h2, h3, h4]

set_option maxHeartbeats 400000 in
theorem joinSlots_any (a b : Sl) (w : World) :
    Calls Tryz.prog 130 #[.agg a.cells.toArray, .agg b.cells.toArray] w fun e w' => e = .returned (.agg (joinSl a b).cells.toArray) ∧ Blw w w' := by
  obtain ⟨r, hr⟩ : ∃ r, r = joinSl a b := ⟨_, rfl⟩
  rw [← hr]
  have HR : Hid (r = joinSl a b) := hr
  clear hr
  obtain ⟨k, f, c, i, v⟩ := a
  obtain ⟨k', f', c', i', v'⟩ := b
  show Calls Tryz.prog 130 #[.agg #[.bool k, .bool f, .int .i64 c, .int .i64 i, .int .i64 v], .agg #[.bool k', .bool f', .int .i64 c', .int .i64 i', .int .i64 v']] w _
  cases k
  · go_enter Tryz.func130, Tryz.ntmps130
    go_wp2
    exact bodyPost_ret (v := .agg #[.bool k', .bool f', .int .i64 c', .int .i64 i', .int .i64 v']) (by simp [results, Tryz.results130, go_sem]) rfl ⟨by rw [HR.out]; simp [joinSl, Sl.cells], (((Blw.rfl _).al _).al _).al _⟩
  · cases k'
    · go_enter Tryz.func130, Tryz.ntmps130
      go_wp2
      exact bodyPost_ret (v := .agg #[.bool true, .bool f, .int .i64 c, .int .i64 i, .int .i64 v]) (by simp [results, Tryz.results130, go_sem]) rfl ⟨by rw [HR.out]; simp [joinSl, Sl.cells], (((Blw.rfl _).al _).al _).al _⟩
    · have he := eq59 f f' c i v c' i' v'
      obtain ⟨s, hs⟩ : ∃ s, s = (f == f' && (c == c' && (i == i' && v == v'))) := ⟨_, rfl⟩
      rw [← hs] at he
      have HS : Hid (s = (f == f' && (c == c' && (i == i' && v == v')))) := hs
      clear hs
      cases s
      · go_enter Tryz.func130, Tryz.ntmps130
        go_wp2
        exact bodyPost_ret (v := .agg #[.bool true, .bool false, .int .i64 0, .int .i64 0, .int .i64 0]) (by simp [results, Tryz.results130, go_sem]) rfl ⟨by rw [HR.out]; have h := HS.out; simp only [joinSl, Sl.same, ← h]; simp [Sl.cells], (((Blw.rfl _).al _).al _).al _⟩
      · go_enter Tryz.func130, Tryz.ntmps130
        go_wp2
        exact bodyPost_ret (v := .agg #[.bool true, .bool f, .int .i64 c, .int .i64 i, .int .i64 v]) (by simp [results, Tryz.results130, go_sem]) rfl ⟨by rw [HR.out]; have h := HS.out; simp only [joinSl, Sl.same, ← h]; simp [Sl.cells], (((Blw.rfl _).al _).al _).al _⟩
end Go.Proofs.YtalaldfgjgpacaaGreatDoor

namespace Go.Proofs.YtalaldfgjgpacaaGreatDoor
set_option linter.unusedVariables false
set_option linter.unusedSimpArgs false
open Go.RowKit

set_option maxHeartbeats 400000 in
theorem count_any (p : Pc) (r : Int) (w : World) :
    Calls Tryz.prog 82 #[.agg p.arr, .int .i64 r] w fun e w' => e = .returned (.int .i64 (p.count r)) ∧ Blw w w' := by
  obtain ⟨n, hn⟩ : ∃ n, n = p.count r := ⟨_, rfl⟩
  rw [← hn]
  by_cases h0 : r < 0
  · have hn0 : n = 0 := by rw [hn, Pc.count, if_neg (by omega)]
    subst hn0; clear hn
    go_enter Tryz.func82, Tryz.ntmps82
    go_wp2
    go_ret
    exact ⟨rfl, (Blw.rfl _).al _⟩
  · by_cases h3 : 3 ≤ r
    · have hn0 : n = 0 := by rw [hn, Pc.count, if_neg (by omega)]
      subst hn0; clear hn
      go_enter Tryz.func82, Tryz.ntmps82
      go_wp2
      go_ret
      exact ⟨rfl, (Blw.rfl _).al _⟩
    · have hr0 : 0 ≤ r := by omega
      have hr3 : r < 3 := by omega
      obtain ⟨kn, hkn⟩ : ∃ kn : Nat → Bool, kn = fun i => (p r.toNat i).known := ⟨_, rfl⟩
      have hn9 : n = cnt kn 9 := by rw [hn, Pc.count, if_pos ⟨hr0, hr3⟩, hkn]
      subst hn9; clear hn h0 h3
      have hc : ∀ i : Nat, i < 9 → p.arr[r.toNat * 45 + i * 5]? = some (.bool (kn i)) := fun i hi => by
        have := Pc.atRIK p r.toNat i 0 (by omega) hi (by omega)
        rw [hkn]; simpa [Sl.cell] using this
      clear hkn
      generalize p.arr = cs at *
      go_enter Tryz.func82, Tryz.ntmps82
      go_wp2
      go_loop [5, 6] (fun n i => ∃ k : Nat, k ≤ 9 ∧ i = .int .i64 k ∧ n = .int .i64 (cnt kn k)) (fun _ i => 9 - (intOf i).toNat)
      case atStart => exact ⟨0, Nat.zero_le _, rfl, rfl⟩
      case round =>
        obtain ⟨k, hk, rfl, rfl⟩ := hrel
        have hle := cnt_le kn k
        by_cases hlt : k < 9
        · have hck := hc k hlt
          have HS : Hid (cnt kn (k + 1) = cnt kn k + if kn k then 1 else 0) := rfl
          clear hc
          cases hb : kn k
          · rw [hb] at hck
            go_wp2
            go_round
            case rel => exact ⟨k + 1, by omega, by go_num, by rw [HS.out, hb]; simp⟩
            case measure => simp [intOf]; omega
          · rw [hb] at hck
            go_wp2
            go_round
            case rel => exact ⟨k + 1, by omega, by go_num, by rw [HS.out, hb]; go_num⟩
            case measure => simp [intOf]; omega
        · have h9 : k = 9 := by omega
          subst h9
          go_wp2
          go_ret
          exact ⟨rfl, (Blw.rfl _).al _⟩
end Go.Proofs.YtalaldfgjgpacaaGreatDoor
