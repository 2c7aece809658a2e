/- A disk beside the document's; two such pairs. -/
import Derived.Test.YtgcfjphjekkkmaaRefR
namespace Go.Proofs.Ytgcfjphjekkkmaa
open Go.RowKit Ap

structure Pr2 where
  k : Dk
  D : List Nat
  W : List Wt
  q : Rk
/-- Both lie there, and neither knows of the other. -/
structure Pair0 (w0 w : World) (n size : Nat) (p : Pr2) : Prop where
  d : DkS w0 w p.k n size p.D p.W
  r : RefAt w w0.heap.size n size p.q
  apart : ∀ i, foot p.k p.W i → ¬ rfoot p.q i
/-- And they hold the same. -/
structure Same (n size : Nat) (p : Pr2) : Prop where
  rows : secs n size p.D = p.q.S.map Bx.xs
  waits : abs p.W = absV p.q.V
structure Pair (w0 w : World) (n size : Nat) (p : Pr2) : Prop where
  z : Pair0 w0 w n size p
  same : Same n size p
structure PMoved (w w' : World) (p p' : Pr2) : Prop where
  kd : p'.k.d = p.k.d
  qr : p'.q.r = p.q.r
  own : ∀ i, p'.k.own i → p.k.own i ∨ w.heap.size ≤ i
  ft : ∀ i, foot p'.k p'.W i → foot p.k p.W i ∨ w.heap.size ≤ i
  rf : ∀ i, rfoot p'.q i → rfoot p.q i ∨ w.heap.size ≤ i
  kept : Kept w w' (fun i => p.k.own i ∨ rfoot p.q i)
/-- From w and p to w' and p'. -/
structure Went (w0 w w' : World) (n size : Nat) (p p' : Pr2) : Prop where
  z : Pair0 w0 w' n size p'
  mv : PMoved w w' p p'
  low : w0.heap.size ≤ w.heap.size
structure Two (w0 w : World) (n size : Nat) (a b : Pr2) : Prop where
  pa : Pair w0 w n size a
  pb : Pair w0 w n size b
  sep : Sep a.k a.W b.k b.W
  ab : ∀ i, foot a.k a.W i → ¬ rfoot b.q i
  ba : ∀ i, foot b.k b.W i → ¬ rfoot a.q i
  rr : ∀ i, rfoot a.q i → ¬ rfoot b.q i
section
variable {w0 w w' w'' : World} {n size : Nat} {a a' b p p' : Pr2}
theorem Pair0.grown (h : Pair0 w0 w n size p) (hg : w.grownBy w' none) : Pair0 w0 w' n size p := ⟨h.d.then hg, h.r.grown hg, h.apart⟩
theorem Pair.grown (h : Pair w0 w n size p) (hg : w.grownBy w' none) : Pair w0 w' n size p := ⟨h.z.grown hg, h.same⟩
theorem Pair.len (h : Pair w0 w n size p) : p.q.V.length = p.W.length := by
  have := congrArg List.length h.same.waits
  simpa [abs, absV] using this.symm
theorem Went.refl (h : Pair0 w0 w n size p) : Went w0 w w n size p p := ⟨h, ⟨rfl, rfl, fun _ e => .inl e, fun _ e => .inl e, fun _ e => .inl e, Kept.refl _ _⟩, h.d.grown.size⟩
theorem Went.new (h : Went w0 w w' n size p p') (hg : w'.grownBy w'' none) : Went w0 w w'' n size p p' :=
  ⟨h.z.grown hg, ⟨h.mv.kd, h.mv.qr, h.mv.own, h.mv.ft, h.mv.rf, h.mv.kept.trans (Kept.new hg _) (fun _ _ e => e)⟩, h.low⟩
/-- A block that came later is written. -/
theorem Went.row {g : Nat} (h : Went w0 w w' n size p p') (hg : w'.grownBy w'' (some g)) (hn : w.heap.size ≤ g) (h1 : ¬ foot p'.k p'.W g) (h2 : ¬ rfoot p'.q g) : Went w0 w w'' n size p p' := by
  have hk : Kept w' w'' (fun i => i = g) := Kept.of hg (fun j e _ => (Option.some.inj e).symm)
  exact ⟨⟨⟨h.z.d.disk.kept hk (fun i hi e => h1 (e ▸ hi)), h.z.d.own, kept_new h.z.d.grown hk (fun i e => by have e : i = g := e; have := h.low; omega)⟩, h.z.r.kept hk (fun i hi e => h2 (e ▸ hi)), h.z.apart⟩, ⟨h.mv.kd, h.mv.qr, h.mv.own, h.mv.ft, h.mv.rf, h.mv.kept.trans hk (fun i hi e => by have e : i = g := e; omega)⟩, h.low⟩
/-- The disk goes on. -/
theorem Went.disk {k' : Dk} {D' : List Nat} {W' : List Wt} (h : Went w0 w w' n size p p') (hd : DkS w0 w'' k' n size D' W') (hm : Moved w' w'' p'.k k' p'.W W') : Went w0 w w'' n size p ⟨k', D', W', p'.q⟩ := by
  have hz := h.mv.kept.size
  have hft : ∀ i, foot k' W' i → foot p'.k p'.W i ∨ w'.heap.size ≤ i := by
    rintro i (e | ⟨x, hx, rfl⟩)
    · exact (hm.own i e).imp .inl id
    · rcases hm.blk x hx with ⟨y, hy, e⟩ | e
      · exact Or.inl (.inr ⟨y, hy, e⟩)
      · exact Or.inr e
  refine ⟨⟨hd, h.z.r.kept hm.kept (fun i hi e => h.z.apart i (.inl e) hi), ?_⟩, ⟨hm.d.trans h.mv.kd, h.mv.qr, ?_, ?_, h.mv.rf, h.mv.kept.trans hm.kept ?_⟩, h.low⟩
  · intro i hi hr
    rcases hft i hi with e | e
    · exact h.z.apart i e hr
    · have := (h.z.r.lt i hr).2; omega
  · intro i hi
    rcases hm.own i hi with e | e
    · exact h.mv.own i e
    · exact Or.inr (by omega)
  · intro i hi
    rcases hft i hi with e | e
    · exact h.mv.ft i e
    · exact Or.inr (by omega)
  · intro i hi e
    rcases h.mv.own i e with e | e
    · exact Or.inl e
    · omega
/-- The document's disk goes on. -/
theorem Went.ref {q' : Rk} (h : Went w0 w w' n size p p') (hr : q'.r = p'.q.r) (hq : RefAt w'' w0.heap.size n size q') (hk : Kept w' w'' (rfoot p'.q)) (hf : ∀ i, rfoot q' i → rfoot p'.q i ∨ w'.heap.size ≤ i) : Went w0 w w'' n size p ⟨p'.k, p'.D, p'.W, q'⟩ := by
  have hz := h.mv.kept.size
  refine ⟨⟨⟨h.z.d.disk.kept hk (fun i hi e => h.z.apart i hi e), h.z.d.own, kept_new h.z.d.grown hk (fun i e => (h.z.r.lt i e).1)⟩, hq, ?_⟩, ⟨h.mv.kd, hr.trans h.mv.qr, h.mv.own, h.mv.ft, ?_, h.mv.kept.trans hk ?_⟩, h.low⟩
  · intro i hi e
    rcases hf i e with e | e
    · exact h.z.apart i hi e
    · have := h.z.d.disk.lt i hi; omega
  · intro i hi
    rcases hf i hi with e | e
    · exact h.mv.rf i e
    · exact Or.inr (by omega)
  · intro i hi e
    rcases h.mv.rf i e with e | e
    · exact Or.inr e
    · omega
theorem Two.symm (h : Two w0 w n size a b) : Two w0 w n size b a := ⟨h.pb, h.pa, h.sep.symm, h.ba, h.ab, fun i x y => h.rr i y x⟩
theorem Two.grown (h : Two w0 w n size a b) (hg : w.grownBy w' none) : Two w0 w' n size a b := ⟨h.pa.grown hg, h.pb.grown hg, h.sep, h.ab, h.ba, h.rr⟩
theorem Two.moved (h : Two w0 w n size a b) (ha : Pair w0 w' n size a') (hm : PMoved w w' a a') : Two w0 w' n size a' b := by
  have hf : ∀ i, foot b.k b.W i → i < w.heap.size := h.pb.z.d.disk.lt
  have hr : ∀ i, rfoot b.q i → i < w.heap.size := fun i hi => (h.pb.z.r.lt i hi).2
  refine ⟨ha, ⟨⟨⟨h.pb.z.d.disk.kept hm.kept ?_, h.pb.z.d.own, ha.z.d.grown⟩, h.pb.z.r.kept hm.kept ?_, h.pb.z.apart⟩, h.pb.same⟩, ⟨?_, ?_⟩, ?_, ?_, ?_⟩
  · rintro i hi (e | e)
    · exact h.sep.l i e hi
    · exact h.ba i hi e
  · rintro i hi (e | e)
    · exact h.ab i (.inl e) hi
    · exact h.rr i e hi
  · intro i hi hb
    rcases hm.own i hi with e | e
    · exact h.sep.l i e hb
    · have := hf i hb; omega
  · intro i hi hb
    rcases hm.ft i hb with e | e
    · exact h.sep.r i hi e
    · have := hf i (.inl hi); omega
  · intro i hi hb
    rcases hm.ft i hi with e | e
    · exact h.ab i e hb
    · have := hr i hb; omega
  · intro i hi hb
    rcases hm.rf i hb with e | e
    · exact h.ba i hi e
    · have := hf i hi; omega
  · intro i hi hb
    rcases hm.rf i hi with e | e
    · exact h.rr i e hb
    · have := hr i hb; omega
theorem Pair.copied {w1 w2 : World} {k' : Dk} {q' : Rk} (h : Pair w0 w n size p) (g1 : w.grownBy w1 none) (hk : DiskAt w1 k' n size p.D p.W) (hown : ∀ i, k'.own i → w.heap.size ≤ i)
    (g2 : w1.grownBy w2 none) (hq : RefAt w2 w1.heap.size n size q') (hS : q'.S.map Bx.xs = p.q.S.map Bx.xs) (hV : absV q'.V = absV p.q.V) :
    Two w0 w2 n size p ⟨k', p.D, p.W, q'⟩ := by
  have h2 := h.grown (grown_trans g1 g2)
  have l0 := h.z.d.grown.size
  have l1 : ∀ i, foot k' p.W i → i < w1.heap.size := hk.lt
  have l2 : ∀ i, foot p.k p.W i → i < w.heap.size := h.z.d.disk.lt
  have l3 : ∀ i, rfoot p.q i → i < w.heap.size := fun i hi => (h.z.r.lt i hi).2
  have hnew : ∀ i, rfoot q' i → w1.heap.size ≤ i := fun i hi => (hq.lt i hi).1
  have gs := g1.size
  have hq0 : RefAt w2 w0.heap.size n size q' := ⟨hq.head, Nat.le_trans (by omega) hq.low, hq.rows.mono (by omega), owns_mono hq.wrow (by omega), fun x hx => (hq.wat x hx).mono (by omega), hq.nv, hq.shape, hq.len, hq.sz, hq.wsz⟩
  refine ⟨h2, ⟨⟨⟨hk.grown g2, fun i hi => Nat.le_trans l0 (hown i hi), h2.z.d.grown⟩, hq0, ?_⟩, ⟨h.same.rows.trans hS.symm, h.same.waits.trans hV.symm⟩⟩, ⟨?_, ?_⟩, ?_, ?_, ?_⟩
  · intro i hi hr
    have := l1 i hi; have := hnew i hr; omega
  · rintro i hi (hf | ⟨x, hx, rfl⟩)
    · have := hown i hf; have := l2 i (.inl hi); omega
    · exact h.z.d.disk.blk_ne hx hi
  · intro i hi hf
    have := hown i hi; have := l2 i hf; omega
  · intro i hi hr
    have := l2 i hi; have := hnew i hr; omega
  · rintro i (hi | ⟨x, hx, rfl⟩) hr
    · have := hown i hi; have := l3 i hr; omega
    · exact h.z.apart _ (.inr ⟨x, hx, rfl⟩) hr
  · intro i hi hr
    have := l3 i hi; have := hnew i hr; omega
theorem RefAt.other_off {lo : Nat} {q : Rk} (h : RefAt w lo n size q) {A : Nat} {c : Array Value} {t : TypeId} {fr : Nat × Nat} (hA : w.heap[A]? = some (.cells c t fr)) (h1 : t ≠ 54) (h2 : t ≠ 46) (h3 : t ≠ 86) (h4 : t ≠ 5) : ¬ rfoot q A := by
  rintro (rfl | e | e | ⟨b, hb, rfl⟩ | ⟨x, hx, rfl⟩)
  · rw [h.head] at hA; simp at hA; exact h1 hA.2.1.symm
  · obtain ⟨_, c2, q2⟩ := own_block h.rows.row A e; rw [q2] at hA; simp at hA; exact h2 hA.2.1.symm
  · obtain ⟨_, c2, q2⟩ := own_block h.wrow A e; rw [q2] at hA; simp at hA; exact h3 hA.2.1.symm
  · obtain ⟨_, c2, q2⟩ := (h.rows.at_ b hb).blk; rw [q2] at hA; simp at hA; exact h4 hA.2.1.symm
  · obtain ⟨_, c2, q2⟩ := (h.wat x hx).blk; rw [q2] at hA; simp at hA; exact h4 hA.2.1.symm
/-- What stays, through a move of a pair. -/
theorem PMoved.at {A : Nat} {o : Obj} (hm : PMoved w w' p p') (hA : w.heap[A]? = some o) (h1 : ¬ p.k.own A) (h2 : ¬ rfoot p.q A) : w'.heap[A]? = some o := hm.kept.at hA (by rintro (e | e); exact h1 e; exact h2 e)
end
end Go.Proofs.Ytgcfjphjekkkmaa
