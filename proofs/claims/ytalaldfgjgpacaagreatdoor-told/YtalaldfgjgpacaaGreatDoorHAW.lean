import Derived.Test.YtalaldfgjgpacaaGreatDoorHAU
import Derived.Test.YtalaldfgjgpacaaGreatDoorHAV
import Derived.KernelRfl
namespace Go.Proofs.YtalaldfgjgpacaaGreatDoor
set_option linter.unusedVariables false
set_option linter.unusedSimpArgs false
open Go.RowKit

theorem ownsRow_form {w : World} {base sz n : Nat} {t : TypeId} {v : Value} {xs : List Value} (h : w.ownsRow base t sz v n xs) : ∃ a c, v = .slice a n c ∧ n ≤ maxLen := by
  rcases h.2 with ⟨rfl, rfl⟩ | ⟨g, cap, cur, rfl, _, _, h3, h4, _⟩
  · exact ⟨none, 0, rfl, by unfold maxLen; omega⟩
  · exact ⟨_, cap, rfl, by omega⟩

/-- The cells of the cluster's row. -/
theorem ClAt.cell {w : World} {m : CM} {s : CS} (h : ClAt w m s) (k : Nat) : w.cell? ⟨m.cb, k, none⟩ = (rowA m s)[k]? := blk_cell h.row k
theorem ClAt.fz {w : World} {m : CM} {s : CS} (h : ClAt w m s) (k : Nat) : w.frozen? ⟨m.cb, k, none⟩ = false := blk_frozen h.row k
theorem ClAt.lt {w : World} {m : CM} {s : CS} (h : ClAt w m s) : m.cb < w.heap.size := lt_of_blk h.row
/-- The replica's number in the row of replicas; what it knows. -/
theorem ClAt.x0 {w : World} {m : CM} {s : CS} (h : ClAt w m s) {r : Nat} (hr : r < s.n) : w.cell? ⟨m.xb, r, none⟩ = some (.pointer (some ⟨m.b r, 0, none⟩)) := by rw [blk_cell h.xs.xs]; exact h.xs.xr r hr
theorem ClAt.k0 {w : World} {m : CM} {s : CS} (h : ClAt w m s) {r : Nat} (hr : r < s.n) : w.cell? ⟨m.kb, r, none⟩ = some (.slice (some ⟨m.g r, 0, none⟩) s.n s.n) := by rw [blk_cell h.ks.kn]; exact h.ks.kr r hr
theorem ClAt.g0 {w : World} {m : CM} {s : CS} (h : ClAt w m s) {r i : Nat} (hr : r < s.n) (hi : i < s.n) : w.cell? ⟨m.g r, i, none⟩ = some (.int .i64 (s.K r i)) := by rw [blk_cell (h.ks.kc r hr)]; exact vecL_at _ hi
theorem ClAt.t0 {w : World} {m : CM} {s : CS} (h : ClAt w m s) {i : Nat} (hi : i < 3) : w.cell? ⟨m.tb, i, none⟩ = some (.string ⟨(s.toks i).toArray⟩) := by rw [blk_cell h.tk.tk]; exact h.tk.tr i hi
theorem ClAt.o0 {w : World} {m : CM} {s : CS} (h : ClAt w m s) {i : Nat} (hi : i < s.n) : w.cell? ⟨m.ob, i, none⟩ = some (.string ⟨(s.owns i).toArray⟩) := by rw [blk_cell h.ow.tk]; exact h.ow.tr i hi

theorem ahead_cl {w : World} {m : CM} {s : CS} (h : ClAt w m s) {r : Nat} (hr : r < s.n) (hp : (s.p r).ok) :
    Calls Tryz.prog 62 #[.pointer (some ⟨m.cb, 0, none⟩), .int .i64 r] w fun e w' => e = .returned (.tuple #[]) ∧ ∃ m', Moved w w' m m' (s.ahead r) := by
  obtain ⟨ea, ec, he, hel⟩ := ownsRow_form h.ev.o
  obtain ⟨wa, wc, hw, hwl⟩ := ownsRow_form h.wi.o
  obtain ⟨aa, ac, ha, hal⟩ := ownsRow_form h.ak.o
  have hrow := h.row
  unfold rowA at hrow
  rw [he, hw, ha] at hrow
  refine (ahead_at m.cb m.xb m.kb (m.b r) (m.g r) r s.n r m.cx m.ck s.mode (s.p r) (s.x r) (vecL s.n (s.K r)) m.xa m.ka _ _ w ea wa aa _ ec _ wc _ ac _ _ s.said s.err s.last s.lg s.st m.ol _ _ _ s.client s.tok h.n3 hr hp hel hwl hal hrow h.xs.xs (h.xs.xr r hr) h.ks.kn (h.ks.kr r hr) (vecL_len _ _) (h.ks.kc r hr) (h.xs.rep r hr)
    (ne_ty h.row (h.xs.rep r hr) (by decide)) (ne_ty h.row h.xs.xs (by decide)) (ne_ty h.row h.ks.kn (by decide)) (ne_ty h.row (h.ks.kc r hr) (by decide))).mono ?_
  rintro e w' ⟨rfl, hb, o', ho1, ho2, ho3⟩
  refine ⟨rfl, { m with ol := .slice (some ⟨o', 0, none⟩) s.n s.n, own := fun k => m.own k ∨ k = o' }, ?_, hb.kp h.oc, ?_, rfl, fun k hk => .inl hk⟩
  · refine h.row_to hb [] 0 r (s.x r).log (stL (s.p r) s.n) (s.K r) s.evs.length s.wire.length s.acks.length (-1) s.tok (.slice (some ⟨o', 0, none⟩) s.n s.n) (fun k => m.own k ∨ k = o') (fun k hk => .inl hk) ?_ ?_ ?_ ?_
    · rintro k (c | c)
      · exact .inl c
      · exact .inr (by omega)
    · rintro k (c | rfl)
      · exact Nat.lt_of_lt_of_le (h.lim k c) hb.size
      · exact lt_of_blk ho2
    · rw [ho3]
      unfold rowA
      rw [he, hw, ha]
    · intro _
      refine ⟨o', rfl, ho2, .inr rfl, fun q hq c => ?_⟩
      have c' : m.g q = o' := c
      have := lt_of_blk (h.ks.kc q hq); omega
  · rintro k (c | c)
    · exact .inl c
    · exact .inr (by omega)

/-- Does it hold what it held ahead of the call? -/
theorem still_cl {w : World} {m : CM} {s : CS} (h : ClAt w m s) {r : Nat} (hr : r < s.n) (hp : (s.p r).ok) :
    Calls Tryz.prog 123 #[.pointer (some ⟨m.cb, 0, none⟩), .int .i64 r] w fun e w' => e = .returned (.bool (((s.x r).log == s.lg) && (stL (s.p r) s.n == s.st))) ∧ Blw w w' :=
  still_at m.cb m.xb (m.b r) r s.n r m.cx s.mode (s.p r) (s.x r) m.xa _ _ _ _ _ _ _ w s.said s.err s.last s.lg s.st m.ol _ _ _ s.client s.tok h.n3 hr hp h.row h.xs.xs (h.xs.xr r hr) (h.xs.rep r hr)

/-- A token's digits against what is known. -/
theorem stale_cl {w : World} {m : CM} {s : CS} (h : ClAt w m s) {r : Nat} (hr : r < s.n) (t : Bs) (ht : isTok s.n t = true) :
    Calls Tryz.prog 122 #[.pointer (some ⟨m.cb, 0, none⟩), .string ⟨t.toArray⟩, .int .i64 r] w fun e w' => e = .returned (.bool (staleK (vecL s.n (s.K r)) t s.n)) ∧ Blw w w' := by
  have hl : t.length = s.n := by
    simp only [isTok, Bool.and_eq_true, beq_iff_eq] at ht; exact ht.1
  have hsz : (ByteArray.mk t.toArray).size = s.n := by rw [bs_size, hl]
  have := stale_at m.cb m.kb (m.g r) s.n r m.ck s.mode (vecL s.n (s.K r)) m.ka _ _ _ _ _ _ _ ⟨t.toArray⟩ w s.said s.err s.last s.lg s.st m.ol _ _ _ s.client s.tok h.n3 hr (by rw [hsz]; exact Nat.le_refl _) (fun k hk => by
    rw [byte_at]
    have hk' : k < t.length := by rw [bs_size] at hk; exact hk
    have hd : isDigB (t.getD k 0) = true := by
      simp only [isTok, Bool.and_eq_true] at ht
      refine List.all_eq_true.1 ht.2 _ ?_
      rw [List.getD_eq_getElem?_getD, List.getElem?_eq_getElem hk']; exact List.getElem_mem _
    have := (isDigB_iff _).1 hd
    omega) (vecL_len _ _) h.row h.ks.kn (h.ks.kr r hr) (h.ks.kc r hr)
  rw [hsz] at this
  rw [show (ByteArray.mk t.toArray).data.toList = t by simp] at this
  exact this

/-- It is stale as the replica finds it stale. -/
theorem stale_eq {E : Hist} {K : Vec} {n : Nat} (hb : Bnd n K) (hn : n ≤ 3) (t : Bs) (ht : isTok n t = true) : ∀ k, k ≤ n → staleK (vecL n K) t k = staleTo (held E K) t k := by
  intro k
  induction k with
  | zero => intro _; rfl
  | succ k ih =>
    intro hk
    have hl : t.length = n := by
      simp only [isTok, Bool.and_eq_true, beq_iff_eq] at ht; exact ht.1
    have hd : isDigB (t.getD k 0) = true := by
      simp only [isTok, Bool.and_eq_true] at ht
      refine List.all_eq_true.1 ht.2 _ ?_
      rw [List.getD_eq_getElem?_getD, List.getElem?_eq_getElem (by omega)]; exact List.getElem_mem _
    have := (isDigB_iff _).1 hd
    rw [staleK, staleTo, ih (by omega), vecL_get _ (by omega), held_count E (by omega) (hb.nine k)]
    congr 1
    rw [Bool.eq_iff_iff]
    simp only [decide_eq_true_eq]
    omega
theorem tokErr_stale {E : Hist} {K : Vec} {n : Nat} (hb : Bnd n K) (hn : n ≤ 3) (t : Bs) (ht : isTok n t = true) : tokErr n (held E K) t = if staleK (vecL n K) t n = true then 3 else 0 := by
  have hl : t.length = n := by
    simp only [isTok, Bool.and_eq_true, beq_iff_eq] at ht; exact ht.1
  unfold tokErr
  rw [if_pos ht, hl, stale_eq (E := E) hb hn t ht n (Nat.le_refl _)]

theorem noughts_tok (n : Nat) : isTok n (noughtsL n) = true := (tok_noughts n Pc.empty).1
/-- The token that is handed in is one. -/
theorem Inv.token {s : CS} (h : Inv s) {r who : Nat} (hr : r < s.n) (hw : who < 3) : isTok s.n (s.token r who) = true := by
  unfold CS.token
  split
  · exact h.toks who hw
  · split
    · exact (h.owns r hr).1
    · exact noughts_tok s.n
end Go.Proofs.YtalaldfgjgpacaaGreatDoor

namespace Go.Proofs.YtalaldfgjgpacaaGreatDoor
set_option linter.unusedVariables false
set_option linter.unusedSimpArgs false
open Go.RowKit

def ptrsV (b : Nat → Nat) (i : Nat) : List Value := (List.range i).map fun j => .pointer (some ⟨b j, 0, none⟩)
def slcsV (g : Nat → Nat) (n i : Nat) : List Value := (List.range i).map fun j => .slice (some ⟨g j, 0, none⟩) n n
def sameV (z : Value) (i : Nat) : List Value := (List.range i).map fun _ => z
theorem ptrsV_succ (b : Nat → Nat) (i k : Nat) : ptrsV b i ++ [.pointer (some ⟨k, 0, none⟩)] = ptrsV (upd b i k) (i + 1) := by
  unfold ptrsV
  rw [List.range_succ, List.map_append]
  congr 1
  · refine List.map_congr_left fun j hj => ?_
    have := List.mem_range.1 hj
    rw [upd_ne _ _ (by omega)]
  · simp [upd_at]
theorem slcsV_succ (g : Nat → Nat) (n i k : Nat) : slcsV g n i ++ [.slice (some ⟨k, 0, none⟩) n n] = slcsV (upd g i k) n (i + 1) := by
  unfold slcsV
  rw [List.range_succ, List.map_append]
  congr 1
  · refine List.map_congr_left fun j hj => ?_
    have := List.mem_range.1 hj
    rw [upd_ne _ _ (by omega)]
  · simp [upd_at]
theorem sameV_succ (z : Value) (i : Nat) : sameV z i ++ [z] = sameV z (i + 1) := by
  unfold sameV
  rw [List.range_succ, List.map_append]; rfl

/-- The row of a cluster that is being made. -/
def newRow (n : Nat) (mode : Int) (xv kv T ov : Value) : Array Value := clA n mode xv kv (.slice none 0 0) (.slice none 0 0) (.slice none 0 0) T ov [] 0 (-1) [] [] (.slice none 0 0) 0 0 0 (-1) []

/-- A cluster that is being made. -/
structure Made (w0 wr : World) (cb n : Nat) (mode : Int) (xv kv T ov : Value) (ix ik io it : Nat) (b g : Nat → Nat) : Prop where
  row : wr.heap[cb]? = some (.cells (newRow n mode xv kv T ov) 38)
  xo : wr.ownsRow w0.heap.size 29 1 xv ix (ptrsV b ix)
  ko : wr.ownsRow w0.heap.size 36 1 kv ik (slcsV g n ik)
  oo : wr.ownsRow w0.heap.size 9 1 ov io (sameV (.string ⟨(noughtsL n).toArray⟩) io)
  to' : wr.ownsRow w0.heap.size 9 1 T it (sameV (.string ⟨(noughtsL n).toArray⟩) it)
  tno : ∀ q, ov.ownBlock = some q → T.ownBlock ≠ some q
  rep : ∀ j, j < ix → wr.heap[b j]? = some (.cells (repArr j n Pc.empty Ext.zero) 69)
  bge : ∀ j, j < ix → w0.heap.size ≤ b j
  bne : ∀ j k, j < ix → k < ix → j ≠ k → b j ≠ b k
  gs : ∀ j, j < ik → wr.heap[g j]? = some (.cells (intsV (vecL n Vec.zero)) 3)
  gge : ∀ j, j < ik → w0.heap.size ≤ g j
  gne : ∀ j k, j < ik → k < ik → j ≠ k → g j ≠ g k
  bl : Blw w0 wr
  cge : w0.heap.size ≤ cb

section
variable {w0 wr w1 w2 : World} {cb n : Nat} {mode : Int} {xv kv T ov : Value} {ix ik io it : Nat} {b g : Nat → Nat}

theorem ownsRow_keep {w w' : World} {base sz : Nat} {t : TypeId} {v : Value} {n : Nat} {xs : List Value} (h : w.ownsRow base t sz v n xs) (hb : ∀ j, (∃ C, w.heap[j]? = some (.cells C t)) → v.ownBlock = some j → w'.heap[j]? = w.heap[j]?) : w'.ownsRow base t sz v n xs := by
  refine ownsRow_on h fun j hj => ?_
  exact hb j (ownsRow_blk h hj) hj
theorem Made.blw (h : Made w0 wr cb n mode xv kv T ov ix ik io it b g) (hb : Blw wr w1) : Made w0 w1 cb n mode xv kv T ov ix ik io it b g :=
  ⟨hb.bk' h.row, ownsRow_keep h.xo (fun j ⟨C, hC⟩ _ => hb.bk j (lt_of_blk hC)), ownsRow_keep h.ko (fun j ⟨C, hC⟩ _ => hb.bk j (lt_of_blk hC)), ownsRow_keep h.oo (fun j ⟨C, hC⟩ _ => hb.bk j (lt_of_blk hC)), ownsRow_keep h.to' (fun j ⟨C, hC⟩ _ => hb.bk j (lt_of_blk hC)), h.tno,
   fun j hj => hb.bk' (h.rep j hj), h.bge, h.bne, fun j hj => hb.bk' (h.gs j hj), h.gge, h.gne, h.bl.tr hb, h.cge⟩
theorem Made.lt (h : Made w0 wr cb n mode xv kv T ov ix ik io it b g) : cb < wr.heap.size := lt_of_blk h.row

theorem own_ge {w : World} {base sz : Nat} {t : TypeId} {v : Value} {n : Nat} {xs : List Value} (h : w.ownsRow base t sz v n xs) {j : Nat} (hj : v.ownBlock = some j) : base ≤ j := by
  rcases h.2 with ⟨rfl, _⟩ | ⟨g, cap, cur, rfl, hb, _⟩
  · cases hj
  · injection hj with e
    have e' : g = j := e
    omega
theorem grown_below (hb : Blw w0 w1) (hg : w1.grownBy w2 xv.ownBlock) (hx : ∀ j, xv.ownBlock = some j → w0.heap.size ≤ j) (hc : w0.heap.size ≤ cb) (o : Nat) (v : Value) : Blw w0 (w2.setCell ⟨cb, o, none⟩ v) := by
  have h2 : Blw w0 w2 := ⟨hg.os.trans hb.os, hg.tape.trans hb.tape, hg.output.trans hb.output, Nat.le_trans hb.size hg.size, fun k hk => (hg.block k (Nat.lt_of_lt_of_le hk hb.size) (fun e => by have := hx k e.symm; omega)).trans (hb.block k hk)⟩
  exact Below.setCell h2 hc v

/-- One replica more. -/
theorem Made.x_push (h : Made w0 wr cb n mode xv kv T ov ix ik io it b g) (hg : wr.grownBy w2 xv.ownBlock) {nb q cap : Nat} (hnb : wr.heap[nb]? = some (.cells (repArr ix n Pc.empty Ext.zero) 69)) (hge : w0.heap.size ≤ nb) (hne : ∀ j, j < ix → b j ≠ nb)
    (ho : w2.ownsRow w0.heap.size 29 1 (.slice (some ⟨q, 0, none⟩) (ix + 1) cap) (ix + 1) (ptrsV b ix ++ [.pointer (some ⟨nb, 0, none⟩)])) :
    Made w0 (w2.setCell ⟨cb, 2, none⟩ (.slice (some ⟨q, 0, none⟩) (ix + 1) cap)) cb n mode (.slice (some ⟨q, 0, none⟩) (ix + 1) cap) kv T ov (ix + 1) ik io it (upd b ix nb) g := by
  have e0 := grown_oth (cb := cb) (o := 2) (v := .slice (some ⟨q, 0, none⟩) (ix + 1) cap) hg
  have hr : ∀ {C : Array Value} {k : Nat} {t : TypeId}, wr.heap[k]? = some (.cells C t) → 29 ≠ t → xv.ownBlock ≠ some k := fun hk hn => row_ne h.xo hk hn
  have hrow2 : w2.heap[cb]? = some (.cells (newRow n mode xv kv T ov) 38) := (hg.block cb h.lt (fun e => hr h.row (by decide) e.symm)).trans h.row
  have er : ∀ {t : TypeId} {sz : Nat} {v : Value} {n : Nat} {xs : List Value}, wr.ownsRow w0.heap.size t sz v n xs → 29 ≠ t → t ≠ 38 → (w2.setCell ⟨cb, 2, none⟩ (.slice (some ⟨q, 0, none⟩) (ix + 1) cap)).ownsRow w0.heap.size t sz v n xs := by
    intro t sz v n xs hv h1 h2
    exact ownsRow_keep hv fun j ⟨C, hC⟩ _ => e0 j ⟨_, hC⟩ (ne_ty hC h.row h2) (hr hC h1)
  refine ⟨?_, ?_, er h.ko (by decide) (by decide), er h.oo (by decide) (by decide), er h.to' (by decide) (by decide), h.tno, ?_, ?_, ?_, fun j hj => (e0 _ ⟨_, h.gs j hj⟩ (ne_ty (h.gs j hj) h.row (by decide)) (hr (h.gs j hj) (by decide))).trans (h.gs j hj), h.gge, h.gne, grown_below h.bl hg (fun j hj => own_ge h.xo hj) h.cge _ _, h.cge⟩
  · rw [heap_setCell_self hrow2]; rfl
  · rw [← ptrsV_succ]
    refine ownsRow_keep ho fun j ⟨C, hC⟩ _ => ?_
    exact Below.heap_setCell w2 ⟨cb, 2, none⟩ _ j (ne_ty hC hrow2 (by decide))
  · intro j hj
    by_cases c : j = ix
    · subst c
      rw [upd_at]
      exact (e0 _ ⟨_, hnb⟩ (ne_ty hnb h.row (by decide)) (hr hnb (by decide))).trans hnb
    · rw [upd_ne _ _ c]
      have hj' : j < ix := by omega
      exact (e0 _ ⟨_, h.rep j hj'⟩ (ne_ty (h.rep j hj') h.row (by decide)) (hr (h.rep j hj') (by decide))).trans (h.rep j hj')
  · intro j hj
    by_cases c : j = ix
    · subst c; rw [upd_at]; exact hge
    · rw [upd_ne _ _ c]; exact h.bge j (by omega)
  · intro j k hj hk hjk
    by_cases c : j = ix
    · rw [c, upd_at, upd_ne _ _ (by omega)]
      exact fun e => hne k (by omega) e.symm
    · rw [upd_ne _ _ c]
      by_cases c2 : k = ix
      · rw [c2, upd_at]; exact hne j (by omega)
      · rw [upd_ne _ _ c2]; exact h.bne j k (by omega) (by omega) hjk

/-- One row of numbers more. -/
theorem Made.k_push (h : Made w0 wr cb n mode xv kv T ov ix ik io it b g) (hg : wr.grownBy w2 kv.ownBlock) {nb q cap : Nat} (hnb : wr.heap[nb]? = some (.cells (intsV (vecL n Vec.zero)) 3)) (hge : w0.heap.size ≤ nb) (hne : ∀ j, j < ik → g j ≠ nb)
    (ho : w2.ownsRow w0.heap.size 36 1 (.slice (some ⟨q, 0, none⟩) (ik + 1) cap) (ik + 1) (slcsV g n ik ++ [.slice (some ⟨nb, 0, none⟩) n n])) :
    Made w0 (w2.setCell ⟨cb, 3, none⟩ (.slice (some ⟨q, 0, none⟩) (ik + 1) cap)) cb n mode xv (.slice (some ⟨q, 0, none⟩) (ik + 1) cap) T ov ix (ik + 1) io it b (upd g ik nb) := by
  have e0 := grown_oth (cb := cb) (o := 3) (v := .slice (some ⟨q, 0, none⟩) (ik + 1) cap) hg
  have hr : ∀ {C : Array Value} {k : Nat} {t : TypeId}, wr.heap[k]? = some (.cells C t) → 36 ≠ t → kv.ownBlock ≠ some k := fun hk hn => row_ne h.ko hk hn
  have hrow2 : w2.heap[cb]? = some (.cells (newRow n mode xv kv T ov) 38) := (hg.block cb h.lt (fun e => hr h.row (by decide) e.symm)).trans h.row
  have er : ∀ {t : TypeId} {sz : Nat} {v : Value} {n : Nat} {xs : List Value}, wr.ownsRow w0.heap.size t sz v n xs → 36 ≠ t → t ≠ 38 → (w2.setCell ⟨cb, 3, none⟩ (.slice (some ⟨q, 0, none⟩) (ik + 1) cap)).ownsRow w0.heap.size t sz v n xs := by
    intro t sz v n xs hv h1 h2
    exact ownsRow_keep hv fun j ⟨C, hC⟩ _ => e0 j ⟨_, hC⟩ (ne_ty hC h.row h2) (hr hC h1)
  refine ⟨?_, er h.xo (by decide) (by decide), ?_, er h.oo (by decide) (by decide), er h.to' (by decide) (by decide), h.tno, fun j hj => (e0 _ ⟨_, h.rep j hj⟩ (ne_ty (h.rep j hj) h.row (by decide)) (hr (h.rep j hj) (by decide))).trans (h.rep j hj), h.bge, h.bne, ?_, ?_, ?_, grown_below h.bl hg (fun j hj => own_ge h.ko hj) h.cge _ _, h.cge⟩
  · rw [heap_setCell_self hrow2]; rfl
  · rw [← slcsV_succ]
    refine ownsRow_keep ho fun j ⟨C, hC⟩ _ => ?_
    exact Below.heap_setCell w2 ⟨cb, 3, none⟩ _ j (ne_ty hC hrow2 (by decide))
  · intro j hj
    by_cases c : j = ik
    · subst c
      rw [upd_at]
      exact (e0 _ ⟨_, hnb⟩ (ne_ty hnb h.row (by decide)) (hr hnb (by decide))).trans hnb
    · rw [upd_ne _ _ c]
      have hj' : j < ik := by omega
      exact (e0 _ ⟨_, h.gs j hj'⟩ (ne_ty (h.gs j hj') h.row (by decide)) (hr (h.gs j hj') (by decide))).trans (h.gs j hj')
  · intro j hj
    by_cases c : j = ik
    · subst c; rw [upd_at]; exact hge
    · rw [upd_ne _ _ c]; exact h.gge j (by omega)
  · intro j k hj hk hjk
    by_cases c : j = ik
    · rw [c, upd_at, upd_ne _ _ (by omega)]
      exact fun e => hne k (by omega) e.symm
    · rw [upd_ne _ _ c]
      by_cases c2 : k = ik
      · rw [c2, upd_at]; exact hne j (by omega)
      · rw [upd_ne _ _ c2]; exact h.gne j k (by omega) (by omega) hjk

/-- One token more, of the replicas. -/
theorem Made.o_push (h : Made w0 wr cb n mode xv kv T ov ix ik io it b g) (hg : wr.grownBy w2 ov.ownBlock) {q cap : Nat} (hq : ov.ownBlock = some q ∨ q = wr.heap.size)
    (ho : w2.ownsRow w0.heap.size 9 1 (.slice (some ⟨q, 0, none⟩) (io + 1) cap) (io + 1) (sameV (.string ⟨(noughtsL n).toArray⟩) io ++ [.string ⟨(noughtsL n).toArray⟩])) :
    Made w0 (w2.setCell ⟨cb, 8, none⟩ (.slice (some ⟨q, 0, none⟩) (io + 1) cap)) cb n mode xv kv T (.slice (some ⟨q, 0, none⟩) (io + 1) cap) ix ik (io + 1) it b g := by
  have e0 := grown_oth (cb := cb) (o := 8) (v := .slice (some ⟨q, 0, none⟩) (io + 1) cap) hg
  have hr : ∀ {C : Array Value} {k : Nat} {t : TypeId}, wr.heap[k]? = some (.cells C t) → 9 ≠ t → ov.ownBlock ≠ some k := fun hk hn => row_ne h.oo hk hn
  have hrow2 : w2.heap[cb]? = some (.cells (newRow n mode xv kv T ov) 38) := (hg.block cb h.lt (fun e => hr h.row (by decide) e.symm)).trans h.row
  have er : ∀ {t : TypeId} {sz : Nat} {v : Value} {n : Nat} {xs : List Value}, wr.ownsRow w0.heap.size t sz v n xs → 9 ≠ t → t ≠ 38 → (w2.setCell ⟨cb, 8, none⟩ (.slice (some ⟨q, 0, none⟩) (io + 1) cap)).ownsRow w0.heap.size t sz v n xs := by
    intro t sz v n xs hv h1 h2
    exact ownsRow_keep hv fun j ⟨C, hC⟩ _ => e0 j ⟨_, hC⟩ (ne_ty hC h.row h2) (hr hC h1)
  refine ⟨?_, er h.xo (by decide) (by decide), er h.ko (by decide) (by decide), ?_, ?_, ?_, fun j hj => (e0 _ ⟨_, h.rep j hj⟩ (ne_ty (h.rep j hj) h.row (by decide)) (hr (h.rep j hj) (by decide))).trans (h.rep j hj), h.bge, h.bne, fun j hj => (e0 _ ⟨_, h.gs j hj⟩ (ne_ty (h.gs j hj) h.row (by decide)) (hr (h.gs j hj) (by decide))).trans (h.gs j hj), h.gge, h.gne, grown_below h.bl hg (fun j hj => own_ge h.oo hj) h.cge _ _, h.cge⟩
  · rw [heap_setCell_self hrow2]; rfl
  · rw [← sameV_succ]
    refine ownsRow_keep ho fun j ⟨C, hC⟩ _ => ?_
    exact Below.heap_setCell w2 ⟨cb, 8, none⟩ _ j (ne_ty hC hrow2 (by decide))
  · refine ownsRow_keep h.to' fun j ⟨C, hC⟩ hj => ?_
    exact e0 j ⟨_, hC⟩ (ne_ty hC h.row (by decide)) (fun e => h.tno j e hj)
  · intro j hj hT
    injection hj with e
    have e' : q = j := e
    subst e'
    obtain ⟨C, hC⟩ := ownsRow_blk h.to' hT
    rcases hq with c | c
    · exact h.tno q c hT
    · have := lt_of_blk hC; omega

/-- One token more, of the clients. -/
theorem Made.t_push (h : Made w0 wr cb n mode xv kv T ov ix ik io it b g) (hg : wr.grownBy w2 T.ownBlock) {q cap : Nat} (hq : T.ownBlock = some q ∨ q = wr.heap.size)
    (ho : w2.ownsRow w0.heap.size 9 1 (.slice (some ⟨q, 0, none⟩) (it + 1) cap) (it + 1) (sameV (.string ⟨(noughtsL n).toArray⟩) it ++ [.string ⟨(noughtsL n).toArray⟩])) :
    Made w0 (w2.setCell ⟨cb, 7, none⟩ (.slice (some ⟨q, 0, none⟩) (it + 1) cap)) cb n mode xv kv (.slice (some ⟨q, 0, none⟩) (it + 1) cap) ov ix ik io (it + 1) b g := by
  have e0 := grown_oth (cb := cb) (o := 7) (v := .slice (some ⟨q, 0, none⟩) (it + 1) cap) hg
  have hr : ∀ {C : Array Value} {k : Nat} {t : TypeId}, wr.heap[k]? = some (.cells C t) → 9 ≠ t → T.ownBlock ≠ some k := fun hk hn => row_ne h.to' hk hn
  have hrow2 : w2.heap[cb]? = some (.cells (newRow n mode xv kv T ov) 38) := (hg.block cb h.lt (fun e => hr h.row (by decide) e.symm)).trans h.row
  have er : ∀ {t : TypeId} {sz : Nat} {v : Value} {n : Nat} {xs : List Value}, wr.ownsRow w0.heap.size t sz v n xs → 9 ≠ t → t ≠ 38 → (w2.setCell ⟨cb, 7, none⟩ (.slice (some ⟨q, 0, none⟩) (it + 1) cap)).ownsRow w0.heap.size t sz v n xs := by
    intro t sz v n xs hv h1 h2
    exact ownsRow_keep hv fun j ⟨C, hC⟩ _ => e0 j ⟨_, hC⟩ (ne_ty hC h.row h2) (hr hC h1)
  refine ⟨?_, er h.xo (by decide) (by decide), er h.ko (by decide) (by decide), ?_, ?_, ?_, fun j hj => (e0 _ ⟨_, h.rep j hj⟩ (ne_ty (h.rep j hj) h.row (by decide)) (hr (h.rep j hj) (by decide))).trans (h.rep j hj), h.bge, h.bne, fun j hj => (e0 _ ⟨_, h.gs j hj⟩ (ne_ty (h.gs j hj) h.row (by decide)) (hr (h.gs j hj) (by decide))).trans (h.gs j hj), h.gge, h.gne, grown_below h.bl hg (fun j hj => own_ge h.to' hj) h.cge _ _, h.cge⟩
  · rw [heap_setCell_self hrow2]; rfl
  · refine ownsRow_keep h.oo fun j ⟨C, hC⟩ hj => ?_
    exact e0 j ⟨_, hC⟩ (ne_ty hC h.row (by decide)) (fun e => h.tno j hj e)
  · rw [← sameV_succ]
    refine ownsRow_keep ho fun j ⟨C, hC⟩ _ => ?_
    exact Below.heap_setCell w2 ⟨cb, 7, none⟩ _ j (ne_ty hC hrow2 (by decide))
  · intro j hj hT
    injection hT with e
    have e' : q = j := e
    subst e'
    obtain ⟨C, hC⟩ := ownsRow_blk h.oo hj
    rcases hq with c | c
    · exact h.tno q hj c
    · have := lt_of_blk hC; omega

theorem row_parts {w : World} {base : Nat} {t : TypeId} {v : Value} {n : Nat} {xs : List Value} (h : w.ownsRow base t 1 v n xs) (hn : 0 < n) : ∃ q cap C, v = .slice (some ⟨q, 0, none⟩) n cap ∧ base ≤ q ∧ w.heap[q]? = some (.cells C t) ∧ ∀ j, j < n → C[j]? = xs[j]? := by
  rcases h.2 with ⟨_, h0⟩ | ⟨q, cap, cur, hv, hb, hg, h1, h2, h3, h4⟩
  · omega
  · refine ⟨q, cap, cur, hv, hb, hg, fun j hj => ?_⟩
    rw [← h4, List.getElem?_take, if_pos (by omega)]
    simp

/-- It is made. -/
theorem Made.at (h : Made w0 wr cb n mode xv kv T ov n n n 3 b g) (h1 : 1 ≤ n) (h3 : n ≤ 3) (ht : Tab Tryz.prog w0) : ∃ m : CM, ClAt wr m (CS.start n mode) ∧ m.cb = cb ∧ ∀ k, m.own k ↔ w0.heap.size ≤ k ∧ k < wr.heap.size := by
  obtain ⟨xb, cx, xa, rfl, x1, x2, x3⟩ := row_parts h.xo (by omega)
  obtain ⟨kb, ck, ka, rfl, k1, k2, k3⟩ := row_parts h.ko (by omega)
  obtain ⟨ob, co, oa, rfl, o1, o2, o3⟩ := row_parts h.oo (by omega)
  obtain ⟨tb, ct, ta, rfl, t1, t2, t3⟩ := row_parts h.to' (by omega)
  refine ⟨{ cb := cb, xb := xb, kb := kb, tb := tb, ob := ob, cx := cx, ck := ck, ct := ct, co := co, xa := xa, ka := ka, ta := ta, oa := oa, b := b, g := g, ev := .slice none 0 0, wv := .slice none 0 0, av := .slice none 0 0, ef := fun _ => [], wf := fun _ => [], af := fun _ => [], ol := .slice none 0 0, own := fun k => w0.heap.size ≤ k ∧ k < wr.heap.size }, ?_, rfl, fun _ => Iff.rfl⟩
  refine ⟨h1, h3, h.row, ⟨h.cge, h.lt⟩, ⟨x2, ?_, h.rep, h.bne, ⟨x1, lt_of_blk x2⟩, fun r hr => ⟨h.bge r hr, lt_of_blk (h.rep r hr)⟩⟩, ⟨k2, ?_, h.gs, h.gne, ⟨k1, lt_of_blk k2⟩, fun r hr => ⟨h.gge r hr, lt_of_blk (h.gs r hr)⟩⟩, ⟨t2, ?_⟩, ⟨o2, ?_⟩, ⟨t1, lt_of_blk t2⟩, ⟨o1, lt_of_blk o2⟩, ?_, ⟨⟨rfl, .inl ⟨rfl, rfl⟩⟩, (fun i e he => by cases he), (fun g hg => by cases hg)⟩, ⟨⟨rfl, .inl ⟨rfl, rfl⟩⟩, (fun i e he => by cases he), (fun g hg => by cases hg)⟩, ⟨⟨rfl, .inl ⟨rfl, rfl⟩⟩, (fun i e he => by cases he), (fun g hg => by cases hg)⟩, (fun g hg => by cases hg), ?_, ht.blw h.bl, ?_, fun k hk => hk.2⟩
  · intro r hr
    have hr' : r < n := hr
    show xa[r]? = _
    rw [x3 r hr']
    unfold ptrsV
    rw [List.getElem?_map, List.getElem?_range hr']; rfl
  · intro r hr
    have hr' : r < n := hr
    show ka[r]? = _
    rw [k3 r hr']
    unfold slcsV
    rw [List.getElem?_map, List.getElem?_range hr']; rfl
  · intro r hr
    show ta[r]? = _
    rw [t3 r hr]
    unfold sameV
    rw [List.getElem?_map, List.getElem?_range hr]; rfl
  · intro r hr
    have hr' : r < n := hr
    show oa[r]? = _
    rw [o3 r hr']
    unfold sameV
    rw [List.getElem?_map, List.getElem?_range hr']; rfl
  · exact fun e => h.tno ob rfl (by show some tb = some ob; rw [show tb = ob from e])
  · intro hl
    exact absurd hl (by show ¬ (0 : Int) ≤ -1; omega)
  · intro q hq ho
    have := ht.lt q hq
    have := ho.1
    omega
end
end Go.Proofs.YtalaldfgjgpacaaGreatDoor

namespace Go.Proofs.YtalaldfgjgpacaaGreatDoor
set_option linter.unusedVariables false
set_option linter.unusedSimpArgs false
open Go.RowKit

/-- A region of a function's code. -/
def findR (n : Nat) : Code → Option Code
  | .region k ops d => if k = n then some (.region k ops d) else none
  | .seq a b => match findR n a with
    | some c => some c
    | none => findR n b
  | .cond _ a b => match findR n a with
    | some c => some c
    | none => findR n b
  | .block _ c => findR n c
  | .loop c => findR n c
  | .scope c => findR n c
  | _ => none

/-- An argument that lies in a block of its own. -/
structure OpAt (W : World) (ob : Nat) (kd r0 t0 a0 b0 c0 : Int) (s0 : ByteArray) : Prop where
  blk : W.heap[ob]? = some (.cells #[.int .i64 kd, .int .i64 r0, .int .i64 t0, .int .i64 a0, .int .i64 b0, .int .i64 c0, .string s0] 46)
theorem OpAt.cells {W : World} {ob : Nat} {kd r0 t0 a0 b0 c0 : Int} {s0 : ByteArray} (h : OpAt W ob kd r0 t0 a0 b0 c0 s0) : W.cell? ⟨ob, 0, none⟩ = some (.int .i64 kd) ∧ W.cell? ⟨ob, 1, none⟩ = some (.int .i64 r0) ∧ W.cell? ⟨ob, 2, none⟩ = some (.int .i64 t0) ∧ W.cell? ⟨ob, 3, none⟩ = some (.int .i64 a0) ∧ W.cell? ⟨ob, 4, none⟩ = some (.int .i64 b0) ∧ W.cell? ⟨ob, 5, none⟩ = some (.int .i64 c0) ∧ W.cell? ⟨ob, 6, none⟩ = some (.string s0) := by
  refine ⟨?_, ?_, ?_, ?_, ?_, ?_, ?_⟩ <;> rw [blk_cell h.blk] <;> rfl
theorem OpAt.on {W W' : World} {ob : Nat} {kd r0 t0 a0 b0 c0 : Int} {s0 : ByteArray} (h : OpAt W ob kd r0 t0 a0 b0 c0 s0) (e : W'.heap[ob]? = W.heap[ob]?) : OpAt W' ob kd r0 t0 a0 b0 c0 s0 := ⟨e.trans h.blk⟩

/-- What is known of a client's call ahead of it. -/
structure CallPre (w : World) (m : CM) (t : CS) (r wn : Nat) (kd c it v : Int) (tk : Bs) : Prop where
  cl : ClAt w m t
  hr : r < t.n
  hw : wn < 3
  tok : isTok t.n tk = true
  pok : (t.p r).ok
  xs : (t.x r).small
  said : t.said = []
  lg : t.lg = (t.x r).log
  st : t.st = stL (t.p r) t.n
  c0 : 0 ≤ c
  c1 : c < 3
  i0 : 0 ≤ it
  i1 : it < 4
  v0 : -99 ≤ v
  v1 : v ≤ 99

/-- The client is noted, and its token. -/
def noted (W0 : World) (m : CM) (t : CS) (wn : Nat) : World := (W0.setCell ⟨m.cb, 18, none⟩ (.int .i64 wn)).setCell ⟨m.cb, 19, none⟩ (.string ⟨(t.toks wn).toArray⟩)
theorem noted_cl {W0 : World} {m : CM} {t : CS} (h : ClAt W0 m t) (wn : Nat) : ClAt (noted W0 m t wn) m { t with client := wn, tok := t.toks wn } ∧ Bx m.cb W0 (noted W0 m t wn) := by
  have hb : Bx m.cb W0 (noted W0 m t wn) := ((Bx.rfl m.cb W0).scs 18 [_]).scs 19 [_]
  refine ⟨h.row_to hb t.said t.err t.last t.lg t.st t.old t.nevs t.nwire t.nacks wn (t.toks wn) m.ol m.own (fun k hk => hk) (fun k hk => .inl hk) (fun k hk => Nat.lt_of_lt_of_le (h.lim k hk) hb.size) ?_ ?_, hb⟩
  · unfold noted
    rw [heap_setCell_self (heap_setCell_self h.row _) _]; rfl
  · intro hl
    obtain ⟨j, h1, h2, h3, h4⟩ := h.old hl
    exact ⟨j, h1, hb.keep h2 (ne_ty h2 h.row (by decide)), h3, h4⟩
/-- The error is noted. -/
theorem err_cl {W0 : World} {m : CM} {t : CS} (h : ClAt W0 m t) (e : Int) : ClAt (W0.setCell ⟨m.cb, 10, none⟩ (.int .i64 e)) m { t with err := e } ∧ Bx m.cb W0 (W0.setCell ⟨m.cb, 10, none⟩ (.int .i64 e)) := by
  have hb : Bx m.cb W0 (W0.setCell ⟨m.cb, 10, none⟩ (.int .i64 e)) := (Bx.rfl m.cb W0).scs 10 [_]
  refine ⟨h.row_to hb t.said e t.last t.lg t.st t.old t.nevs t.nwire t.nacks t.client t.tok m.ol m.own (fun k hk => hk) (fun k hk => .inl hk) (fun k hk => Nat.lt_of_lt_of_le (h.lim k hk) hb.size) ?_ ?_, hb⟩
  · rw [heap_setCell_self h.row _]; rfl
  · intro hl
    obtain ⟨j, h1, h2, h3, h4⟩ := h.old hl
    exact ⟨j, h1, hb.keep h2 (ne_ty h2 h.row (by decide)), h3, h4⟩
/-- What is said is noted. -/
theorem said_cl {W0 : World} {m : CM} {t : CS} (h : ClAt W0 m t) (l : Bs) : ClAt (W0.setCell ⟨m.cb, 9, none⟩ (.string ⟨l.toArray⟩)) m { t with said := l } ∧ Bx m.cb W0 (W0.setCell ⟨m.cb, 9, none⟩ (.string ⟨l.toArray⟩)) := by
  have hb : Bx m.cb W0 (W0.setCell ⟨m.cb, 9, none⟩ (.string ⟨l.toArray⟩)) := (Bx.rfl m.cb W0).scs 9 [_]
  refine ⟨h.row_to hb l t.err t.last t.lg t.st t.old t.nevs t.nwire t.nacks t.client t.tok m.ol m.own (fun k hk => hk) (fun k hk => .inl hk) (fun k hk => Nat.lt_of_lt_of_le (h.lim k hk) hb.size) ?_ ?_, hb⟩
  · rw [heap_setCell_self h.row _]; rfl
  · intro hl
    obtain ⟨j, h1, h2, h3, h4⟩ := h.old hl
    exact ⟨j, h1, hb.keep h2 (ne_ty h2 h.row (by decide)), h3, h4⟩
/-- What the walk looks at while an event is written. -/
structure Sees (wx : World) (m : CM) (t : CS) (r ob : Nat) (kd r0 t0 a0 b0 c0 : Int) (s0 : ByteArray) : Prop where
  row : wx.heap[m.cb]? = some (.cells (rowA m t) 38)
  kn : wx.heap[m.kb]? = some (.cells m.ka 36)
  kr : m.ka[r]? = some (.slice (some ⟨m.g r, 0, none⟩) t.n t.n)
  kc : wx.heap[m.g r]? = some (.cells (intsV (vecL t.n (t.K r))) 3)
  op : OpAt wx ob kd r0 t0 a0 b0 c0 s0
theorem Sees.of {wx : World} {m : CM} {t : CS} {r ob : Nat} {kd r0 t0 a0 b0 c0 : Int} {s0 : ByteArray} (h : ClAt wx m t) (hr : r < t.n) (o : OpAt wx ob kd r0 t0 a0 b0 c0 s0) : Sees wx m t r ob kd r0 t0 a0 b0 c0 s0 :=
  ⟨h.row, h.ks.kn, h.ks.kr r hr, h.ks.kc r hr, o⟩
theorem Sees.grown {w1 w2 : World} {m : CM} {t : CS} {r ob : Nat} {kd r0 t0 a0 b0 c0 : Int} {s0 : ByteArray} (h : ClAt w1 m t) (hr : r < t.n) (o : OpAt w1 ob kd r0 t0 a0 b0 c0 s0) (hg : w1.grownBy w2 m.ev.ownBlock) : Sees w2 m t r ob kd r0 t0 a0 b0 c0 s0 := by
  have e : ∀ {j : Nat} {C : Array Value} {u : TypeId}, w1.heap[j]? = some (.cells C u) → 149 ≠ u → w2.heap[j]? = some (.cells C u) := fun hj hne => (hg.block _ (lt_of_blk hj) (fun c => row_ne h.ev.o hj hne c.symm)).trans hj
  exact ⟨e h.row (by decide), e h.ks.kn (by decide), h.ks.kr r hr, e (h.ks.kc r hr) (by decide), ⟨e o.blk (by decide)⟩⟩
theorem Sees.cells {wx : World} {m : CM} {t : CS} {r ob : Nat} {kd r0 t0 a0 b0 c0 : Int} {s0 : ByteArray} (h : Sees wx m t r ob kd r0 t0 a0 b0 c0 s0) (hr : r < t.n) {kk : Nat} (hk : kk = t.K r r) :
    wx.cell? ⟨m.cb, 3, none⟩ = some (.slice (some ⟨m.kb, 0, none⟩) t.n m.ck) ∧ wx.cell? ⟨m.kb, r, none⟩ = some (.slice (some ⟨m.g r, 0, none⟩) t.n t.n) ∧ wx.cell? ⟨m.g r, r, none⟩ = some (.int .i64 kk) ∧ wx.cell? ⟨ob, 0, none⟩ = some (.int .i64 kd) :=
  ⟨by rw [blk_cell h.row]; rfl, by rw [blk_cell h.kn]; exact h.kr, by rw [blk_cell h.kc, hk]; exact vecL_at _ hr, h.op.cells.1⟩
theorem Sees.c4 {wx : World} {m : CM} {t : CS} {r ob : Nat} {kd r0 t0 a0 b0 c0 : Int} {s0 : ByteArray} (h : Sees wx m t r ob kd r0 t0 a0 b0 c0 s0) {ea : Option Addr} {el ec : Nat} (he : m.ev = .slice ea el ec) : wx.cell? ⟨m.cb, 4, none⟩ = some (.slice ea el ec) := by rw [blk_cell h.row, ← he]; rfl
theorem Sees.set4 {wx : World} {m : CM} {t : CS} {r ob : Nat} {kd r0 t0 a0 b0 c0 : Int} {s0 : ByteArray} (h : Sees wx m t r ob kd r0 t0 a0 b0 c0 s0) (hr : r < t.n) {kk : Nat} (hk : kk = t.K r r) (v : Value) :
    (wx.setCell ⟨m.cb, 4, none⟩ v).cell? ⟨m.cb, 3, none⟩ = some (.slice (some ⟨m.kb, 0, none⟩) t.n m.ck) ∧ (wx.setCell ⟨m.cb, 4, none⟩ v).cell? ⟨m.kb, r, none⟩ = some (.slice (some ⟨m.g r, 0, none⟩) t.n t.n) ∧ (wx.setCell ⟨m.cb, 4, none⟩ v).cell? ⟨m.g r, r, none⟩ = some (.int .i64 kk) ∧ (wx.setCell ⟨m.cb, 4, none⟩ v).cell? ⟨ob, 0, none⟩ = some (.int .i64 kd) := by
  have hb : Bx m.cb wx (wx.setCell ⟨m.cb, 4, none⟩ v) := (Bx.rfl m.cb wx).scs 4 [v]
  refine ⟨by rw [blk_cell (heap_setCell_self h.row _)]; rfl, by rw [blk_cell (hb.keep h.kn (ne_ty h.kn h.row (by decide)))]; exact h.kr, by rw [blk_cell (hb.keep h.kc (ne_ty h.kc h.row (by decide))), hk]; exact vecL_at _ hr, by rw [blk_cell (hb.keep h.op.blk (ne_ty h.op.blk h.row (by decide)))]; rfl⟩
theorem infoEv : (Tryz.prog.info? 149).map (fun i => (i.zero, i.size, i.bytes)) = some (some (.agg #[.int .i64 0, .int .i64 0, .int .i64 0, .int .i64 0, .int .i64 0, .int .i64 0, .slice none 0 0]), 7, 72) := by kernel_rfl
theorem infoMail : (Tryz.prog.info? 104).map (fun i => (i.zero, i.size, i.bytes)) = some (some (.agg #[.string ⟨#[]⟩, .int .i64 0, .int .i64 0, .slice none 0 0]), 4, 56) := by kernel_rfl
end Go.Proofs.YtalaldfgjgpacaaGreatDoor
