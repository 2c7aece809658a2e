/- A call of a disk that is there tells what it should: Write; and all of them. -/
import Derived.Test.YtgcfjphjekkkmaaOneB
import Derived.Test.YtgcfjphjekkkmaaRefW
namespace Go.Proofs.Ytgcfjphjekkkmaa
open Go.RowKit Ap
attribute [local go_sem ↓] Go.wp_at_zero Go.wp_at_succ

def wcode (n size : Nat) (a : Int) (L : Nat) : Int := if 0 ≤ a ∧ a < (n : Int) then (if L = size then 0 else 3) else 50
def wabs (n size : Nat) (a : Int) (xs : List Nat) (P : List Pr) : List Pr := if 0 ≤ a ∧ a < (n : Int) then (if xs.length = size then P ++ [(a.toNat, xs)] else P) else P
section
variable {w0 w : World} {n size : Nat} {p : Pr2} {d r : Nat}
theorem wr_disk {k : Dk} {D : List Nat} {W : List Wt} (hd : k.d = d) (h : DkS w0 w k n size D W) (hW : W.length ≤ 1000) (a : Int) (ao : Option Addr) (L cap : Nat) (xs : List Nat) (hat : At w ao xs) (hx : xs.length = L) :
    Calls Try.prog 31 #[.pointer (some ⟨d, 0, none⟩), .int .i64 a, .slice ao L cap] w fun e w' => ∃ k' W', e = .returned (.int .i64 (wcode n size a L)) ∧ DkS w0 w' k' n size D W' ∧ Moved w w' k k' W W' ∧ abs W' = wabs n size a xs (abs W) ∧ W'.length ≤ W.length + 1 := by
  by_cases ha : 0 ≤ a ∧ a < (n : Int)
  · by_cases hl : L = size
    · obtain ⟨s, rfl⟩ := Int.eq_ofNat_of_zero_le ha.1
      subst hl
      refine (writeS hd h (by omega) s (by omega) ao cap xs hat hx).mono ?_
      rintro e w' ⟨rfl, k', h1, h2, h3, h4⟩
      refine ⟨k', _, by rw [wcode, if_pos ha, if_pos rfl], h3, h4.moved, ?_, by simp⟩
      rw [wabs, if_pos ha, if_pos hx]
      simp [abs]
    · subst hd
      refine (write_long h.disk a ao L cap ha hl).mono ?_
      rintro e w' ⟨rfl, hg⟩
      exact ⟨k, W, by rw [wcode, if_pos ha, if_neg hl], h.then hg, (Moved.refl w k W).new hg, by rw [wabs, if_pos ha, if_neg (by omega)], by omega⟩
  · subst hd
    refine (write_far h.disk a _ ha).mono ?_
    rintro e w' ⟨rfl, hg⟩
    exact ⟨k, W, by rw [wcode, if_neg ha], h.then hg, (Moved.refl w k W).new hg, by rw [wabs, if_neg ha], by omega⟩
theorem wr_ref {lo : Nat} {q : Rk} (hr : q.r = r) (h : RefAt w lo n size q) (hlo : lo ≤ w.heap.size) (hV : q.V.length ≤ 1000) (a : Int) (ao : Option Addr) (L cap : Nat) (xs : List Nat) (hat : At w ao xs) (hx : xs.length = L) (hnil : ao ≠ none) :
    Calls Try.prog 41 #[.pointer (some ⟨r, 0, none⟩), .int .i64 a, .slice ao L cap] w fun e w' => ∃ q' : Rk, e = .returned (.int .i64 (wcode n size a L)) ∧ q'.r = r ∧ RefAt w' lo n size q' ∧ q'.S = q.S ∧ absV q'.V = wabs n size a xs (absV q.V) ∧ Kept w w' (rfoot q) ∧ ∀ i, rfoot q' i → rfoot q i ∨ w.heap.size ≤ i := by
  by_cases ha : 0 ≤ a ∧ a < (n : Int)
  · obtain ⟨s, rfl⟩ := Int.eq_ofNat_of_zero_le ha.1
    by_cases hl : L = size
    · subst hl
      refine (rwrite_any hr h hlo (by omega) s (by omega) ao cap xs hat hx (fun e => absurd e hnil)).mono ?_
      rintro e w' ⟨q', rfl, h1, h2, h3, h4, h5, h6⟩
      refine ⟨q', by rw [wcode, if_pos ha, if_pos rfl], h1, h2, h3, ?_, h5, h6⟩
      rw [wabs, if_pos ha, if_pos hx]
      exact h4
    · refine (rwrite_long hr h s (by omega) ao L cap hl).mono ?_
      rintro e w' ⟨rfl, rfl⟩
      exact ⟨q, by rw [wcode, if_pos ha, if_neg hl], hr, h, rfl, by rw [wabs, if_pos ha, if_neg (by omega)], Kept.refl _ _, fun i e => .inl e⟩
  · refine (rwrite_bad hr h a (by omega) _).mono ?_
    rintro e w' ⟨rfl, rfl⟩
    exact ⟨q, by rw [wcode, if_neg ha], hr, h, rfl, by rw [wabs, if_neg ha], Kept.refl _ _, fun i e => .inl e⟩
set_option maxRecDepth 20000 in
set_option maxHeartbeats 8000000 in
theorem one_write (hd : p.k.d = d) (hr : p.q.r = r) (h : Pair w0 w n size p) (hW : p.W.length ≤ 900) (d0 d1 d2 d3 d4 : Int) (fo : Option Addr) (m c : Nat) (h7 : d0 % 7 = 0) :
    Calls Try.prog 15 #[.pointer (some ⟨d, 0, none⟩), .pointer (some ⟨r, 0, none⟩), .agg #[.int .i64 d0, .int .i64 d1, .int .i64 d2, .int .i64 d3, .int .i64 d4, .slice fo m c]] w fun e w' => Told w0 w w' n size p e := by
  have HP : Hid (∀ w, Calls Try.prog 14 #[.int .i64 d0, .int .i64 7] w fun e w' => e = .returned (.int .i64 0) ∧ w' = w) := fun w => by have := pick_any d0 7 7 w rfl (by omega) (by omega); rw [show d0 % ((7 : Nat) : Int) = 0 from h7] at this; exact this
  have g0 := World.grownBy_alloc w (.cells #[.int .i64 d0, .int .i64 d1, .int .i64 d2, .int .i64 d3, .int .i64 d4, .slice fo m c] 37) none
  have HBB : Hid (∀ (j : Nat) (v : Value), [Value.int .i64 d0, .int .i64 d1, .int .i64 d2, .int .i64 d3, .int .i64 d4, .slice fo m c][j]? = some v → (w.alloc (.cells #[.int .i64 d0, .int .i64 d1, .int .i64 d2, .int .i64 d3, .int .i64 d4, .slice fo m c] 37)).cell? ⟨w.heap.size, j, none⟩ = some v) := fun j v hv => (cell_row (l := [Value.int .i64 d0, .int .i64 d1, .int .i64 d2, .int .i64 d3, .int .i64 d4, .slice fo m c]) (heap_alloc_new w _) j).trans hv
  have b0 := HBB.out 0 _ rfl
  have b1 := HBB.out 1 _ rfl
  have b2 := HBB.out 2 _ rfl
  have b3 := HBB.out 3 _ rfl
  have b4 := HBB.out 4 _ rfl
  have b5 := HBB.out 5 _ rfl
  have hlen := h.len
  have l2 : ∀ i, foot p.k p.W i → i < w.heap.size := h.z.d.disk.lt
  have l3 : ∀ i, rfoot p.q i → i < w.heap.size := fun i hi => (h.z.r.lt i hi).2
  have s1 := h.z.r.shape.s1
  have HL := hide (And.intro l2 l3)
  have HH := hide (And.intro h (And.intro hd (And.intro hr (And.intro g0 (h.grown g0)))))
  clear h hd hr g0 h7 l2 l3 HBB
  go_enter Try.func15, Try.ntmps15
  go_wp2_with fail
  refine (HP.out _).mono ?_
  rintro e w' ⟨rfl, rfl⟩
  generalize w.alloc (.cells #[.int .i64 d0, .int .i64 d1, .int .i64 d2, .int .i64 d3, .int .i64 d4, .slice fo m c] 37) = wa at *
  obtain ⟨B, hB⟩ : ∃ B, B = w.heap.size := ⟨_, rfl⟩
  have HB := hide hB
  rw [← hB] at b0 b1 b2 b3 b4 b5 ⊢
  clear hB
  go_wp2_with fail
  go_region_held3 (fun w' => w'.cell? ⟨B, 0, none⟩ = some (.int .i64 d0) ∧ w'.cell? ⟨B, 1, none⟩ = some (.int .i64 d1) ∧ w'.cell? ⟨B, 2, none⟩ = some (.int .i64 d2) ∧ w'.cell? ⟨B, 3, none⟩ = some (.int .i64 d3) ∧ w'.cell? ⟨B, 4, none⟩ = some (.int .i64 d4) ∧ w'.cell? ⟨B, 5, none⟩ = some (.slice fo m c)) (first | exact ⟨b0, b1, b2, b3, b4, b5⟩ | assumption | go_keep) (first
    | (go_at_call 39; refine (rsize_any HH.out.2.2.1 (HH.out.2.2.2.2.z.r.grown (grown_drew _ _))).mono ?_; rintro e w1 ⟨rfl, rfl⟩)
    | (go_at_call 38; refine (opBytes_any d0 d1 d2 d3 d4 (.slice fo m c) rfl size s1 _).mono ?_; rintro e w1 ⟨g, rfl, a1, l1, g1⟩; have l1 : wa.heap.size ≤ g := l1; have g1' := grown_trans (grown_drew wa none) g1; have hS1 : w1.cell? ⟨B, 0, none⟩ = some (.int .i64 d0) ∧ w1.cell? ⟨B, 1, none⟩ = some (.int .i64 d1) ∧ w1.cell? ⟨B, 2, none⟩ = some (.int .i64 d2) ∧ w1.cell? ⟨B, 3, none⟩ = some (.int .i64 d3) ∧ w1.cell? ⟨B, 4, none⟩ = some (.int .i64 d4) ∧ w1.cell? ⟨B, 5, none⟩ = some (.slice fo m c) := ⟨g1'.cell b0 (by simp), g1'.cell b1 (by simp), g1'.cell b2 (by simp), g1'.cell b3 (by simp), g1'.cell b4 (by simp), g1'.cell b5 (by simp)⟩; have A1 := hide (And.intro a1 (And.intro l1 g1')); clear a1 l1 g1 g1'))
  have hL := opLen_le d4 size
  obtain ⟨L, hL2⟩ : ∃ L, L = opLen d4 size := ⟨_, rfl⟩
  rw [← hL2] at A1 hL ⊢
  clear hL2
  have HLE := hide (lent_any (some ⟨g, 0, none⟩) L L (fills d3 L) w1 (fills_length _ _) (at_row A1.out.1) (fun e => by cases e) (by omega))
  have x2 := hS1.2.2.1
  clear hS1 b0 b1 b2 b3 b4 b5
  go_wp2_with fail
  refine HLE.out.mono ?_
  rintro e w2 ⟨v, rfl, lt2, g2⟩
  obtain ⟨g', cap', rfl, x1, x2', x3, x4, x5, cur, x6, x7⟩ := lt2.all
  rw [fills_length] at x1 ⊢
  have HG2 := hide (And.intro (grown_trans A1.out.2.2 g2) (And.intro x3 (And.intro x4 (And.intro x5 ((g2.block _ (row_lt A1.out.1) (by simp)).trans A1.out.1)))))
  have HCUR : Hid (∃ cur : Array Value, w2.heap[g']? = some (.cells cur 5 (0, 0)) ∧ cur.size = cap') := ⟨cur, x6, x7⟩
  have y2 := g2.cell x2 (by simp)
  have hsz := HH.out.2.2.2.1.size
  have HW2 := hide (((Went.refl HH.out.1.z).new HH.out.2.2.2.1).new HG2.out.1)
  have hgl : Hid (g < w1.heap.size) := row_lt A1.out.1
  have HAT2 : Hid (At w2 (some ⟨g', 0, none⟩) (fills d3 L)) := by
    intro j u hu
    exact x5 j u (by rw [List.getElem?_append_left (List.getElem?_eq_some_iff.1 hu).1]; exact hu)
  clear x3 x4 x5 x6 x7 g2 lt2 HLE x2
  go_wp2_with fail
  refine (wr_disk HH.out.2.1 HW2.out.z.d (by omega) d2 (some ⟨g', 0, none⟩) L cap' (fills d3 L) HAT2.out (fills_length _ _)).mono ?_
  rintro e w3 ⟨k3, W3, rfl, t1, t2, t3, t4⟩
  have HW3 := hide (HW2.out.disk t1 t2)
  have HT := hide (And.intro t2 (And.intro t3 t4))
  clear t1 t2 t3 t4
  generalize hcc : wcode n size d2 L = cc at *
  have HCC := hide hcc
  clear hcc
  have hnew : ∀ A, w.heap.size ≤ A → ¬ p.k.own A := fun A hA e => by have := HL.out.1 A (.inl e); omega
  have z2 : w3.cell? ⟨B, 2, none⟩ = some (.int .i64 d2) := cell_kept HT.out.1.kept y2 (hnew B (by have := HB.out; omega))
  have HAT3 : Hid (At w3 (some ⟨g', 0, none⟩) (fills d3 L ++ marks 1 12)) := by
    intro j u hu
    obtain ⟨a, e, hc⟩ := HG2.out.2.2.2.1 j u hu
    cases e
    refine ⟨_, rfl, cell_kept HT.out.1.kept hc ?_⟩
    rw [addr_add_block]
    exact hnew g' (by have := HG2.out.2.1; have := A1.out.2.2.size; show w.heap.size ≤ g'; omega)
  have HBG3 : Hid (w3.heap[g]? = some (.cells (bv (fills d3 L)).toArray 5 (0, 0))) := HT.out.1.kept.at HG2.out.2.2.2.2 (hnew g (by have := A1.out.2.1; omega))
  have HCUR3 : Hid (∃ cur : Array Value, w3.heap[g']? = some (.cells cur 5 (0, 0)) ∧ cur.size = cap') := by
    obtain ⟨cur, h1, h2⟩ := HCUR.out
    exact ⟨cur, HT.out.1.kept.at h1 (hnew g' (by have := HG2.out.2.1; have := A1.out.2.2.size; omega)), h2⟩
  clear y2 hnew
  go_wp2_with fail
  refine (kept_any g' cap' (some ⟨g, 0, none⟩) L L (fills d3 L) w3 (fills_length _ _) x1 x2' HAT3.out (at_row HBG3.out) (by omega)).mono ?_
  rintro e w4 ⟨rfl, g4⟩
  have A4 := hide g4
  have u2 := g4.cell z2 (by simp)
  clear g4 z2
  go_wp2_with fail
  refine (over_any g' cap' L w4 (by obtain ⟨cur, h1, h2⟩ := HCUR3.out; exact ⟨cur, (A4.out.block _ (row_lt h1) (by simp)).trans h1, h2⟩) x1 x2' (by omega)).mono ?_
  rintro e w5 ⟨rfl, g5⟩
  have hg'1 : w1.heap.size ≤ g' := HG2.out.2.1
  have hw1 : wa.heap.size ≤ w1.heap.size := A1.out.2.2.size
  have hnB : B ≠ g' := by have := HB.out; have := hgl.out; have := A1.out.2.1; omega
  have v2 := g5.cell u2 (by intro e; exact hnB (Option.some.inj e))
  have HW5 := hide ((HW3.out.new A4.out).row g5 (by omega) (by
      rintro (e | ⟨x, hx, e⟩)
      · rcases HT.out.1.own g' e with e | e
        · have := HL.out.1 g' (.inl e); omega
        · have := HG2.out.2.2.1; omega
      · rcases HT.out.1.blk x hx with ⟨y, hy, e2⟩ | e2
        · have := HL.out.1 y.blk (.inr ⟨y, hy, rfl⟩)
          have e : x.blk = g' := e
          omega
        · have := HG2.out.2.2.1
          have e : x.blk = g' := e
          omega) (fun e => by have := HL.out.2 g' e; omega))
  have HBG5 : Hid (w5.heap[g]? = some (.cells (bv (fills d3 L)).toArray 5 (0, 0))) := by
    have h4 := (A4.out.block _ (row_lt HBG3.out) (by simp)).trans HBG3.out
    exact (g5.block g (row_lt h4) (fun e => by have := Option.some.inj e; have := hgl.out; omega)).trans h4
  clear g5 u2 hnB
  have hlo5 : w0.heap.size ≤ w5.heap.size := HW5.out.z.d.grown.size
  go_wp2_with fail
  refine (wr_ref (q := p.q) HH.out.2.2.1 HW5.out.z.r hlo5 (by omega) d2 (some ⟨g, 0, none⟩) L L (fills d3 L) (at_row HBG5.out) (fills_length _ _) (by simp)).mono ?_
  rintro e w6 ⟨q', rfl, r1, r2, r3, r4, r5, r6⟩
  have HW6 := hide (HW5.out.ref (r1.trans HH.out.2.2.1.symm) r2 r5 r6)
  have HR := hide (And.intro r3 r4)
  clear r1 r2 r3 r4 r5 r6
  rw [HCC.out]
  go_wp2
  go_ret
  refine ⟨rfl, _, HW6.out, ⟨?_, ?_⟩, HT.out.2.2⟩
  · show secs n size p.D = q'.S.map Bx.xs
    rw [HR.out.1]; exact HH.out.1.same.rows
  · show abs W3 = absV q'.V
    rw [HR.out.2, HT.out.2.1, HH.out.1.same.waits]
end
end Go.Proofs.Ytgcfjphjekkkmaa
