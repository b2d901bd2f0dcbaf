import Derived.Test.YtalaldfgjgpacabGreatDoorBHBD
import Derived.Test.YtalaldfgjgpacabGreatDoorQB8
namespace Go.Proofs.YtalaldfgjgpacabGreatDoor
set_option linter.unusedVariables false
set_option linter.unusedSimpArgs false
open Go.RowKit

/-- A cluster stays where another one moves. -/
theorem ClAt.kpo {w w' : World} {m : CM} {s : CS} {F : Nat → Prop} (h : ClAt w m s) (hk : Kp F w w') (ho : ∀ k, m.own k → ¬ F k) (ha : Avd m F) (ht : ∀ g, Tryz.prog.globalNamed "internal/strconv.uint64pow10" = some g → ¬ F g) : ClAt w' m s := by
  have e : ∀ {k : Nat} {o : Obj}, w.heap[k]? = some o → m.own k → w'.heap[k]? = some o := fun hx hy => hk.keep hx (ho _ hy)
  have eb : ∀ {v : Value} {base sz n : Nat} {t : TypeId} {xs : List Value}, w.ownsRow base t sz v n xs → (∀ g, v.ownBlock = some g → m.own g) → ∀ g, v.ownBlock = some g → w'.heap[g]? = w.heap[g]? := by
    intro v base sz n t xs hv hb g hg
    obtain ⟨C, hC⟩ := ownsRow_blk hv hg
    exact (e hC (hb g hg)).trans hC.symm
  refine ⟨h.n1, h.n3, e h.row h.oc, h.oc, ⟨e h.xs.xs h.xs.ox, h.xs.xr, fun r hr => e (h.xs.rep r hr) (h.xs.ob r hr), h.xs.bne, h.xs.ox, h.xs.ob⟩, ⟨e h.ks.kn h.ks.ok, h.ks.kr, fun r hr => e (h.ks.kc r hr) (h.ks.og r hr), h.ks.gne, h.ks.ok, h.ks.og⟩, ⟨e h.tk.tk h.ot, h.tk.tr⟩, ⟨e h.ow.tk h.oo, h.ow.tr⟩, h.ot, h.oo, h.tno, ⟨ownsRow_on h.ev.o (eb h.ev.o h.ev.b), ?_, h.ev.b⟩, ⟨ownsRow_on h.wi.o (eb h.wi.o h.wi.b), ?_, h.wi.b⟩, ⟨ownsRow_on h.ak.o (eb h.ak.o h.ak.b), h.ak.i, h.ak.b⟩, h.wa, ?_, h.tab.kp hk ht, h.tf, fun k hk' => Nat.lt_of_lt_of_le (h.lim k hk') hk.size⟩
  · intro i ev hev
    obtain ⟨u, h1, g, h2, h3, h4⟩ := h.ev.i i ev hev
    refine ⟨u, h1, g, h2, h3, hk.keep h4 (ha.1 i g s.n s.n ?_)⟩
    rw [h1, h2]; rfl
  · intro i ev hev
    obtain ⟨u, h1, g, h2, h3, h4⟩ := h.wi.i i ev hev
    refine ⟨u, h1, g, h2, h3, hk.keep h4 (ha.2 i g s.n s.n ?_)⟩
    rw [h1, h2]; rfl
  · intro hl
    obtain ⟨j, h1, h2, h3, h4⟩ := h.old hl
    exact ⟨j, h1, e h2 h3, h3, h4⟩

/-- Two clusters that go the same way. -/
structure Two (w0 w : World) (m1 m2 : CM) (s1 s2 : CS) (n : Nat) : Prop where
  c1 : ClAt w m1 s1
  c2 : ClAt w m2 s2
  dis : ∀ k, m1.own k → ¬ m2.own k
  a1 : Avd m1 m2.own
  a2 : Avd m2 m1.own
  l1 : Avd m1 (fun k => w.heap.size ≤ k)
  l2 : Avd m2 (fun k => w.heap.size ≤ k)
  o1 : ∀ k, m1.own k → w0.heap.size ≤ k
  o2 : ∀ k, m2.own k → w0.heap.size ≤ k
  bl : Blw w0 w
theorem Avd.imp {m : CM} {F G : Nat → Prop} (h : Avd m F) (hi : ∀ k, G k → F k) : Avd m G :=
  ⟨fun i g a b hx hg => h.1 i g a b hx (hi g hg), fun i g a b hx hg => h.2 i g a b hx (hi g hg)⟩
theorem Avd.or {m : CM} {F G : Nat → Prop} (h : Avd m F) (k : Avd m G) : Avd m (fun j => F j ∨ G j) :=
  ⟨fun i g a b hx hg => hg.elim (h.1 i g a b hx) (k.1 i g a b hx), fun i g a b hx hg => hg.elim (h.2 i g a b hx) (k.2 i g a b hx)⟩
section
variable {w0 w w' : World} {m1 m2 m' : CM} {s1 s2 s' : CS} {n : Nat}
theorem Two.blw (h : Two w0 w m1 m2 s1 s2 n) (hb : Blw w w') : Two w0 w' m1 m2 s1 s2 n :=
  ⟨h.c1.blw hb, h.c2.blw hb, h.dis, h.a1, h.a2, h.l1.imp (fun k hk => Nat.le_trans hb.size hk), h.l2.imp (fun k hk => Nat.le_trans hb.size hk), h.o1, h.o2, h.bl.tr hb⟩
theorem Two.one (h : Two w0 w m1 m2 s1 s2 n) (hM : Moved w w' m1 m' s') : Two w0 w' m' m2 s' s2 n := by
  refine ⟨hM.cl, h.c2.kpo hM.kp (fun k h2 h1 => h.dis k h1 h2) h.a2 h.c1.tf, fun k hk h2 => ?_, hM.fr _ (fun k hk => .inl (h.c2.lim k hk)) h.a1, (h.a2.or h.l2).imp (fun k hk => hM.own k hk), ?_, h.l2.imp (fun k hk => Nat.le_trans hM.kp.size hk), fun k hk => ?_, h.o2, hM.kp.blw h.bl h.o1⟩
  · rcases hM.own k hk with c | c
    · exact h.dis k c h2
    · have := h.c2.lim k h2; omega
  · exact hM.fr _ (fun k hk => .inr hk) (h.l1.imp (fun k hk => Nat.le_trans hM.kp.size hk))
  · rcases hM.own k hk with c | c
    · exact h.o1 k c
    · exact Nat.le_trans h.bl.size c
theorem Two.swap (h : Two w0 w m1 m2 s1 s2 n) : Two w0 w m2 m1 s2 s1 n :=
  ⟨h.c2, h.c1, fun k h2 h1 => h.dis k h1 h2, h.a2, h.a1, h.l2, h.l1, h.o2, h.o1, h.bl⟩
end
/-- Two new clusters. -/
theorem Two.start {w w1 w2 : World} {m1 m2 : CM} {s1 s2 : CS} {n : Nat} (c1 : ClAt w1 m1 s1) (c2 : ClAt w2 m2 s2) (b1 : Blw w w1) (b2 : Blw w1 w2) (o1 : ∀ k, m1.own k ↔ w.heap.size ≤ k ∧ k < w1.heap.size) (o2 : ∀ k, m2.own k ↔ w1.heap.size ≤ k ∧ k < w2.heap.size) (e1 : ∀ F, Avd m1 F) (e2 : ∀ F, Avd m2 F) : Two w w2 m1 m2 s1 s2 n :=
  ⟨c1.blw b2, c2, fun k h1 h2 => by have := ((o1 k).1 h1).2; have := ((o2 k).1 h2).1; omega, e1 _, e2 _, e1 _, e2 _, fun k hk => ((o1 k).1 hk).1, fun k hk => Nat.le_trans b1.size ((o2 k).1 hk).1, b1.tr b2⟩
end Go.Proofs.YtalaldfgjgpacabGreatDoor
