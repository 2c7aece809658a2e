/- Two disks and the document's two, in two rows. -/
import Derived.Test.YtgcfjphjekkkmaaOneC
import Derived.Test.YtgcfjphjekkkmaaRefN
import Derived.Test.YtgcfjphjekkkmaaRefZ
namespace Go.Proofs.Ytgcfjphjekkkmaa
open Go.RowKit Ap
attribute [local go_sem ↓] Go.wp_at_zero Go.wp_at_succ

theorem RefAt.mono {w : World} {lo lo' n size : Nat} {q : Rk} (h : RefAt w lo n size q) (hl : lo' ≤ lo) : RefAt w lo' n size q :=
  ⟨h.head, Nat.le_trans hl h.low, h.rows.mono hl, owns_mono h.wrow hl, fun x hx => (h.wat x hx).mono hl, h.nv, h.shape, h.len, h.sz, h.wsz⟩
theorem secs_zs (n size : Nat) : secs n size (zs (n * size)) = List.replicate n (zs size) := by
  apply List.ext_getElem?
  intro i
  by_cases hi : i < n
  · rw [secs_get _ _ _ _ hi, zs_sec n size i hi, List.getElem?_replicate, if_pos hi]
  · rw [List.getElem?_eq_none (by rw [secs_length]; omega), List.getElem?_eq_none (by simp; omega)]
def ptr (b : Nat) : Value := .pointer (some ⟨b, 0, none⟩)
/-- The two rows: a at place k, b at place k'. -/
structure Rows2 (w : World) (X Y k k' : Nat) (a b : Pr2) : Prop where
  kk : k + k' = 1
  hx : ∃ c, w.heap[X]? = some (.cells c 25 (0, 0)) ∧ c.size = 2
  hy : ∃ c, w.heap[Y]? = some (.cells c 29 (0, 0)) ∧ c.size = 2
  xk : w.cell? ⟨X, k, none⟩ = some (ptr a.k.d)
  xk' : w.cell? ⟨X, k', none⟩ = some (ptr b.k.d)
  yk : w.cell? ⟨Y, k, none⟩ = some (ptr a.q.r)
  yk' : w.cell? ⟨Y, k', none⟩ = some (ptr b.q.r)
structure PS (w0 w : World) (X Y n size k k' : Nat) (a b : Pr2) : Prop where
  rows : Rows2 w X Y k k' a b
  two : Two w0 w n size a b
  lx : w0.heap.size ≤ X
  ly : w0.heap.size ≤ Y
section
variable {w0 w w' : World} {X Y n size k k' : Nat} {a a' b : Pr2}
theorem Rows2.swap (h : Rows2 w X Y k k' a b) : Rows2 w X Y k' k b a := ⟨by have := h.kk; omega, h.hx, h.hy, h.xk', h.xk, h.yk', h.yk⟩
theorem PS.swap (h : PS w0 w X Y n size k k' a b) : PS w0 w X Y n size k' k b a := ⟨h.rows.swap, h.two.symm, h.lx, h.ly⟩
theorem Rows2.same (h : Rows2 w X Y k k' a b) (hx : w'.heap[X]? = w.heap[X]?) (hy : w'.heap[Y]? = w.heap[Y]?) (hd : a'.k.d = a.k.d) (hq : a'.q.r = a.q.r) : Rows2 w' X Y k k' a' b := by
  obtain ⟨cx, h1, h2⟩ := h.hx
  obtain ⟨cy, h3, h4⟩ := h.hy
  have ex : ∀ j, w'.cell? ⟨X, j, none⟩ = w.cell? ⟨X, j, none⟩ := fun j => by simp [World.cell?, hx]
  have ey : ∀ j, w'.cell? ⟨Y, j, none⟩ = w.cell? ⟨Y, j, none⟩ := fun j => by simp [World.cell?, hy]
  exact ⟨h.kk, ⟨cx, hx.trans h1, h2⟩, ⟨cy, hy.trans h3, h4⟩, by rw [ex, hd]; exact h.xk, by rw [ex]; exact h.xk', by rw [ey, hq]; exact h.yk, by rw [ey]; exact h.yk'⟩
theorem PS.grown (h : PS w0 w X Y n size k k' a b) (hg : w.grownBy w' none) : PS w0 w' X Y n size k k' a b := by
  obtain ⟨cx, h1, h2⟩ := h.rows.hx
  obtain ⟨cy, h3, h4⟩ := h.rows.hy
  exact ⟨h.rows.same (hg.block X (row_lt h1) (by simp)) (hg.block Y (row_lt h3) (by simp)) rfl rfl, h.two.grown hg, h.lx, h.ly⟩
/-- Behind a call of one. -/
theorem PS.told (h : PS w0 w X Y n size k k' a b) (hw : Went w0 w w' n size a a') (hs : Same n size a') : PS w0 w' X Y n size k k' a' b := by
  obtain ⟨cx, h1, h2⟩ := h.rows.hx
  obtain ⟨cy, h3, h4⟩ := h.rows.hy
  have hx := hw.mv.at h1 (h.two.pa.z.d.disk.other_off h1 (by decide) (by decide) (by decide)) (h.two.pa.z.r.other_off h1 (by decide) (by decide) (by decide) (by decide))
  have hy := hw.mv.at h3 (h.two.pa.z.d.disk.other_off h3 (by decide) (by decide) (by decide)) (h.two.pa.z.r.other_off h3 (by decide) (by decide) (by decide) (by decide))
  exact ⟨h.rows.same (hx.trans h1.symm) (hy.trans h3.symm) hw.mv.kd hw.mv.qr, h.two.moved ⟨hw.z, hs⟩ hw.mv, h.lx, h.ly⟩
/-- Behind both stores of an exchange. -/
theorem PS.stored {w1 w2 : World} {kd : Dk} {q' : Rk} (h : PS w0 w X Y n size k k' a b) (g1 : w.grownBy w1 none) (hk : DiskAt w1 kd n size a.D a.W) (hown : ∀ i, kd.own i → w.heap.size ≤ i)
    (g2 : w1.grownBy w2 none) (hq : RefAt w2 w1.heap.size n size q') (hS : q'.S.map Bx.xs = a.q.S.map Bx.xs) (hV : absV q'.V = absV a.q.V) :
    PS w0 ((w2.setCell ⟨X, k', none⟩ (ptr kd.d)).setCell ⟨Y, k', none⟩ (ptr q'.r)) X Y n size k k' a ⟨kd, a.D, a.W, q'⟩ := by
  have h2 := h.grown (grown_trans g1 g2)
  have ht := h.two.pa.copied g1 hk hown g2 hq hS hV
  obtain ⟨cx, h1, hcx⟩ := h2.rows.hx
  obtain ⟨cy, h3, hcy⟩ := h2.rows.hy
  have hXY : X ≠ Y := by
    intro e
    rw [e, h3] at h1
    simp at h1
  have hkk := h.rows.kk
  have kx : Kept w2 (w2.setCell ⟨X, k', none⟩ (ptr kd.d)) (fun i => i = X) := Kept.of (grown_setCell w2 X k' _) (fun j e _ => (Option.some.inj e).symm)
  have ky : Kept (w2.setCell ⟨X, k', none⟩ (ptr kd.d)) ((w2.setCell ⟨X, k', none⟩ (ptr kd.d)).setCell ⟨Y, k', none⟩ (ptr q'.r)) (fun i => i = Y) := Kept.of (grown_setCell _ Y k' _) (fun j e _ => (Option.some.inj e).symm)
  have kxy : Kept w2 ((w2.setCell ⟨X, k', none⟩ (ptr kd.d)).setCell ⟨Y, k', none⟩ (ptr q'.r)) (fun i => i = X ∨ i = Y) := (kx.mono (fun _ _ e => Or.inl e)).trans (ky.mono (fun _ _ e => Or.inr e)) (fun _ _ e => e)
  have hX1 := heap_setCell_same w2 X k' cx 25 (ptr kd.d) h1
  have hY1 := (Below.heap_setCell w2 ⟨X, k', none⟩ (ptr kd.d) Y (fun e => hXY e.symm)).trans h3
  have hX2 := (Below.heap_setCell (w2.setCell ⟨X, k', none⟩ (ptr kd.d)) ⟨Y, k', none⟩ (ptr q'.r) X hXY).trans hX1
  have hY2 := heap_setCell_same _ Y k' cy 29 (ptr q'.r) hY1
  have keepP : ∀ {p : Pr2}, Pair w0 w2 n size p → Pair w0 ((w2.setCell ⟨X, k', none⟩ (ptr kd.d)).setCell ⟨Y, k', none⟩ (ptr q'.r)) n size p := by
    intro p hp
    refine ⟨⟨⟨hp.z.d.disk.kept kxy ?_, hp.z.d.own, kept_new hp.z.d.grown kxy ?_⟩, hp.z.r.kept kxy ?_, hp.z.apart⟩, hp.same⟩
    · rintro i (hi | ⟨x, hx, rfl⟩) e
      · rcases e with rfl | rfl
        · exact hp.z.d.disk.other_off h1 (by decide) (by decide) (by decide) hi
        · exact hp.z.d.disk.other_off h3 (by decide) (by decide) (by decide) hi
      · have hb := (hp.z.d.disk.waits x hx).2.2.2
        rcases e with e | e
        · have e : x.blk = X := e
          rw [e, h1] at hb; simp at hb
        · have e : x.blk = Y := e
          rw [e, h3] at hb; simp at hb
    · rintro i (rfl | rfl)
      · exact h.lx
      · exact h.ly
    · rintro i hi (rfl | rfl)
      · exact hp.z.r.other_off h1 (by decide) (by decide) (by decide) (by decide) hi
      · exact hp.z.r.other_off h3 (by decide) (by decide) (by decide) (by decide) hi
  refine ⟨⟨hkk, ⟨_, hX2, by simpa using hcx⟩, ⟨_, hY2, by simpa using hcy⟩, ?_, ?_, ?_, ?_⟩, ⟨keepP ht.pa, keepP ht.pb, ht.sep, ht.ab, ht.ba, ht.rr⟩, h.lx, h.ly⟩
  · have := h2.rows.xk
    simp only [World.cell?, hX2, h1] at this ⊢
    simp only [Option.isSome_none, Bool.false_eq_true, if_false] at this ⊢
    rw [Array.getElem?_setIfInBounds_ne (by omega)]
    exact this
  · simp only [World.cell?, hX2]
    simp only [Option.isSome_none, Bool.false_eq_true, if_false]
    rw [Array.getElem?_setIfInBounds_self_of_lt (by omega)]
  · have := h2.rows.yk
    simp only [World.cell?, hY2, h3] at this ⊢
    simp only [Option.isSome_none, Bool.false_eq_true, if_false] at this ⊢
    rw [Array.getElem?_setIfInBounds_ne (by omega)]
    exact this
  · simp only [World.cell?, hY2]
    simp only [Option.isSome_none, Bool.false_eq_true, if_false]
    rw [Array.getElem?_setIfInBounds_self_of_lt (by omega)]
/-- The first two pairs. -/
theorem two_new {w1 w2 w3 w4 w5 : World} {ka kb : Dk} {qa qb : Rk} (g0 : w.grownBy w1 none) (ha : DkS w w2 ka n size (zs (n * size)) []) (ga : w1.grownBy w2 none) (oa : ∀ i, ka.own i → w1.heap.size ≤ i)
    (hb : DkS w w3 kb n size (zs (n * size)) []) (gb : w2.grownBy w3 none) (ob : ∀ i, kb.own i → w2.heap.size ≤ i)
    (ra : RefAt w4 w3.heap.size n size qa) (sa : qa.S.map Bx.xs = List.replicate n (zs size)) (va : qa.V = []) (gc : w3.grownBy w4 none)
    (rb : RefAt w5 w4.heap.size n size qb) (sb : qb.S.map Bx.xs = List.replicate n (zs size)) (vb : qb.V = []) (gd : w4.grownBy w5 none) :
    Two w w5 n size ⟨ka, zs (n * size), [], qa⟩ ⟨kb, zs (n * size), [], qb⟩ := by
  have z0 := g0.size
  have z1 := ga.size
  have z2 := gb.size
  have z3 := gc.size
  have z4 := gd.size
  have fa : ∀ i, foot ka [] i → w1.heap.size ≤ i ∧ i < w2.heap.size := by
    rintro i (e | ⟨x, hx, _⟩)
    · exact ⟨oa i e, ha.disk.lt i (.inl e)⟩
    · cases hx
  have fb : ∀ i, foot kb [] i → w2.heap.size ≤ i ∧ i < w3.heap.size := by
    rintro i (e | ⟨x, hx, _⟩)
    · exact ⟨ob i e, hb.disk.lt i (.inl e)⟩
    · cases hx
  have la := ra.lt
  have lb := rb.lt
  have pa : Pair w w5 n size ⟨ka, zs (n * size), [], qa⟩ := ⟨⟨((ha.then gb).then gc).then gd, (ra.mono (by omega)).grown gd, fun i h1 h2 => by have := fa i h1; have := la i h2; omega⟩, ⟨by rw [secs_zs]; exact sa.symm, by rw [va]; rfl⟩⟩
  have pb : Pair w w5 n size ⟨kb, zs (n * size), [], qb⟩ := ⟨⟨(hb.then gc).then gd, rb.mono (by omega), fun i h1 h2 => by have := fb i h1; have := lb i h2; omega⟩, ⟨by rw [secs_zs]; exact sb.symm, by rw [vb]; rfl⟩⟩
  refine ⟨pa, pb, ⟨?_, ?_⟩, ?_, ?_, ?_⟩
  · intro i h1 h2
    have := fa i (.inl h1); have := fb i h2; omega
  · intro i h1 h2
    have := fb i (.inl h1); have := fa i h2; omega
  · intro i h1 h2
    have := fa i h1; have := lb i h2; omega
  · intro i h1 h2
    have := fb i h1; have := la i h2; omega
  · intro i h1 h2
    have := la i h1; have := lb i h2; omega
end
/-- A call of one, whatever it is. -/
theorem one_any {w0 w : World} {n size : Nat} {p : Pr2} {d r : Nat} (hd : p.k.d = d) (hr : p.q.r = r) (h : Pair w0 w n size p) (hW : p.W.length ≤ 900) (o : OpD) (fo : Option Addr) (c : Nat) (hF : FIn w0 fo c o.F) :
    Calls Try.prog 15 #[.pointer (some ⟨d, 0, none⟩), .pointer (some ⟨r, 0, none⟩), .agg #[.int .i64 o.d0, .int .i64 o.d1, .int .i64 o.d2, .int .i64 o.d3, .int .i64 o.d4, .slice fo o.F.length c]] w fun e w' => Told w0 w w' n size p e := by
  rcases pick7 o.d0 with h7 | h7 | h7 | h7 | h7 | h7 | h7
  · exact one_write hd hr h hW _ _ _ _ _ _ _ _ h7
  · exact one_read hd hr h (by omega) _ _ _ _ _ _ rfl h7
  · exact one_sync hd hr h (by omega) _ _ _ _ _ _ rfl h7
  · exact one_ask hd hr h _ _ _ _ _ _ rfl h7
  · exact one_crash hd hr h (by omega) _ _ _ _ _ _ _ _ o.F rfl (hF.at_.grown h.z.d.grown) hF.nil hF.size hF.lt h7
  · exact one_image hd hr h _ _ _ _ _ _ rfl h7
  · exact one_copy hd hr h _ _ _ _ _ _ rfl h7
end Go.Proofs.Ytgcfjphjekkkmaa
