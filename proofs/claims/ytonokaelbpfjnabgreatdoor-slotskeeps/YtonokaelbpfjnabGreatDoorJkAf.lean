/- Texts joined: Rg3, Rg4, Rg5, Rg6, Rg7. -/
import Derived.Test.YtonokaelbpfjnabGreatDoorJkAe
/- A region's read. -/
namespace Go.Proofs.YtonokaelbpfjnabGreatDoor
open Go.RowKit Ap
attribute [local go_sem ↓] Go.wp_at_zero Go.wp_at_succ

theorem slice_from (g len cap lo : Nat) (h : lo < len) (h2 : len ≤ cap) (w : World) : (Instr.slice 39 (.slice (some ⟨g, 0, none⟩) len cap) (some (.int .i64 (lo : Int))) none none).run Tryz.prog w = .ok (.slice (some ⟨g, lo, none⟩) (len - lo) (cap - lo)) w := by
  simp [Instr.slice, run_underlying Tryz.underlying39, Instr.sliceBounds, Instr.sliceBound, asIntOf, Addr.add, Nat.le_of_lt h]
  rw [if_neg (by omega)]
  split
  · rename_i e; rw [e]
  · rfl
section
variable {w0 w w' : World} {n size b : Nat} {s s' : Dv} {k : Dk} {D : List Nat} {W : List Wt}
/-- Some bytes of another block stay. -/
theorem DvM.other {k' : Dk} {W' : List Wt} (h : DvM w w' b k k' W W') {i : Nat} {o : Obj} (ho : w.heap[i]? = some o) (hk : ¬ k.own i) (hb : i ≠ b) : w'.heap[i]? = some o := h.kept.at ho (fun e => e.elim hk hb)
theorem dread_go (h : Dev w0 w n size b s k D W) (hc : s.cnt < 100000) (hgo : s.goes = true) (i : Nat) (hi : i < n) :
    Calls Tryz.prog 88 #[.pointer (some ⟨b, 0, none⟩), .int .i64 (i : Int)] w fun e w' => ∃ g : Nat, e = .returned (.tuple #[.slice (some ⟨g, 0, none⟩) size size, .int .i64 0]) ∧ w.heap.size ≤ g ∧ w'.heap[g]? = some (.cells (bv (found size D W i)).toArray 5 (0, 0)) ∧ Dev w0 w' n size b s.next k D W ∧ DvM w w' b k k W W := by
  refine (dread_any h hc (i : Int)).mono ?_
  rintro e w' ⟨v, rfl, h1, h2, h3⟩
  have hi2 : (0 : Int) ≤ (i : Int) ∧ (i : Int) < (n : Int) := by omega
  have hl := found_length h.disk.disk.len h.disk.disk.fitsW i hi
  have s0 := h.disk.disk.shape.s0
  rw [if_pos hgo, rbytes, if_pos hi2, Int.toNat_natCast] at h1
  rcases h1 with ⟨_, h1⟩ | ⟨g, rfl, g1, g2, g3⟩
  · rw [h1] at hl; simp at hl; omega
  · exact ⟨g, by rw [Dv.code, if_pos hgo, rcode, if_pos hi2], g1, g2, h2, h3⟩
theorem dread_no (h : Dev w0 w n size b s k D W) (hc : s.cnt < 100000) (hgo : s.goes = false) (i : Int) :
    Calls Tryz.prog 88 #[.pointer (some ⟨b, 0, none⟩), .int .i64 i] w fun e w' => e = .returned (.tuple #[.slice none 0 0, .int .i64 60]) ∧ Dev w0 w' n size b s.next k D W ∧ DvM w w' b k k W W := by
  refine (dread_any h hc i).mono ?_
  rintro e w' ⟨v, rfl, h1, h2, h3⟩
  have s0 := h.disk.disk.shape.s0
  rw [hgo] at h1
  rcases h1 with ⟨rfl, _⟩ | ⟨g, rfl, g1, g2, g3⟩
  · exact ⟨by rw [Dv.code, hgo]; rfl, h2, h3⟩
  · simp at g3; omega
/-- All that a read looks at. -/
structure RdS (w0 w : World) (n size b : Nat) (s : Dv) (k : Dk) (D : List Nat) (W : List Wt) (r F C br bo g m : Nat) (acc : List Nat) : Prop where
  dev : Dev w0 w n size b s k D W
  rg : RgAt w r b F C
  hbr : w.heap[br]? = some (.cells #[.pointer (some ⟨r, 0, none⟩)] 65 (0, 0))
  hbo : w.heap[bo]? = some (.cells #[.slice (some ⟨g, 0, none⟩) m m] 39 (0, 0))
  hg : w.heap[g]? = some (.cells (bv acc).toArray 5 (0, 0))
  len : acc.length = m
  off : ¬ foot k W g
  low : w0.heap.size ≤ g
variable {r F C br bo g m : Nat} {acc : List Nat}
theorem Dev.far (h : Dev w0 w n size b s k D W) {i : Nat} {c : Array Value} {t : TypeId} {fr : Nat × Nat} (ho : w.heap[i]? = some (.cells c t fr)) (h1 : t ≠ 124) (h2 : t ≠ 5) (h3 : t ≠ 269) (h4 : t ≠ 131) : ¬ k.own i ∧ i ≠ b :=
  ⟨h.disk.disk.other_off ho h1 h2 h3, fun e => by have := h.dev.head; rw [← e, ho] at this; simp at this; exact h4 this.2.1⟩
theorem RdS.goes (h : RdS w0 w n size b s k D W r F C br bo g m acc) (hd : Dev w0 w' n size b s' k D W) (hm : DvM w w' b k k W W) : RdS w0 w' n size b s' k D W r F C br bo g m acc := by
  have h1 := h.dev.far h.rg.head (by decide) (by decide) (by decide) (by decide)
  have h2 := h.dev.far h.hbr (by decide) (by decide) (by decide) (by decide)
  have h3 := h.dev.far h.hbo (by decide) (by decide) (by decide) (by decide)
  refine ⟨hd, ⟨hm.other h.rg.head h1.1 h1.2⟩, hm.other h.hbr h2.1 h2.2, hm.other h.hbo h3.1 h3.2, hm.other h.hg (fun e => h.off (.inl e)) ?_, h.len, h.off, h.low⟩
  rintro rfl
  have := h.dev.dev.head
  rw [h.hg] at this
  simp at this
theorem RdS.then (h : RdS w0 w n size b s k D W r F C br bo g m acc) (hg : w.grownBy w' none) : RdS w0 w' n size b s k D W r F C br bo g m acc :=
  ⟨h.dev.then hg, h.rg.grown hg, (hg.block _ (row_lt h.hbr) (by simp)).trans h.hbr, (hg.block _ (row_lt h.hbo) (by simp)).trans h.hbo, (hg.block _ (row_lt h.hg) (by simp)).trans h.hg, h.len, h.off, h.low⟩
theorem RdS.gb (h : RdS w0 w n size b s k D W r F C br bo g m acc) : g ≠ b := by
  rintro rfl
  have := h.dev.dev.head
  rw [h.hg] at this
  simp at this
/-- The bytes' block is written. -/
theorem RdS.put {acc' : List Nat} (h : RdS w0 w n size b s k D W r F C br bo g m acc) (hg : w.grownBy w' (some g)) (ha : w'.heap[g]? = some (.cells (bv acc').toArray 5 (0, 0))) (hl : acc'.length = m) : RdS w0 w' n size b s k D W r F C br bo g m acc' := by
  have hk : ∀ i o, w.heap[i]? = some o → i ≠ g → w'.heap[i]? = some o := fun i o ho hi => (hg.block i (row_lt ho) (fun e => hi (Option.some.inj e))).trans ho
  refine ⟨⟨h.dev.disk.row hg (fun i hi e => h.off (e ▸ hi)) h.low, ⟨hk _ _ h.dev.dev.head (fun e => h.gb e.symm), h.dev.dev.ok⟩, h.dev.low⟩, ⟨hk _ _ h.rg.head ?_⟩, hk _ _ h.hbr ?_, hk _ _ h.hbo ?_, ha, hl, h.off, h.low⟩
  · rintro rfl; have := h.rg.head; rw [h.hg] at this; simp at this
  · rintro rfl; have := h.hbr; rw [h.hg] at this; simp at this
  · rintro rfl; have := h.hbo; rw [h.hg] at this; simp at this
end
end Go.Proofs.YtonokaelbpfjnabGreatDoor
/- A region's read: one sector of it. -/
namespace Go.Proofs.YtonokaelbpfjnabGreatDoor
open Go.RowKit Ap
attribute [local go_sem ↓] Go.wp_at_zero Go.wp_at_succ

def pcells (sc fr te d : Int) : List Value := [.int .i64 sc, .int .i64 fr, .int .i64 te, .int .i64 d]
theorem part_new (w : World) (sc fr te d : Int) : (w.alloc (.cells #[.int .i64 sc, .int .i64 fr, .int .i64 te, .int .i64 d] 176)).heap[w.heap.size]? = some (.cells (pcells sc fr te d).toArray 176 (0, 0)) := heap_alloc_new w _
section
variable {w0 w w' : World} {n size b : Nat} {s s' : Dv} {k : Dk} {D : List Nat} {W : List Wt} {r F C br bo g m : Nat} {acc : List Nat}
set_option maxRecDepth 20000 in
set_option maxHeartbeats 4000000 in
theorem rd1_go (h : RdS w0 w n size b s k D W r F C br bo g m acc) (hc : s.cnt < 100000) (hgo : s.goes = true) (sc fr te d : Nat) (hsc : sc < n) (hft : fr < te) (hte : te ≤ size) (hd : d + (te - fr) ≤ m) :
    Calls Tryz.prog 87 #[.agg #[.int .i64 (sc : Int), .int .i64 (fr : Int), .int .i64 (te : Int), .int .i64 (d : Int)], .pointer (some ⟨br, 0, none⟩), .pointer (some ⟨bo, 0, none⟩)] w fun e w' => e = .returned (.int .i64 0) ∧ RdS w0 w' n size b s.next k D W r F C br bo g m (splice acc d (((found size D W sc).drop fr).take (te - fr))) ∧ Kept w w' (fun i => k.own i ∨ i = b ∨ i = g) := by
  have g1 := World.grownBy_alloc w (.cells #[.int .i64 (sc : Int), .int .i64 (fr : Int), .int .i64 (te : Int), .int .i64 (d : Int)] 176) none
  have H1 := hide (And.intro (h.then g1) (part_new w sc fr te d))
  have G1 := hide g1
  have hlen := hide (found_length h.dev.disk.disk.len h.dev.disk.disk.fitsW sc hsc)
  have hs1 := h.dev.disk.disk.shape.s1
  clear h g1
  go_enter Tryz.func87, Tryz.ntmps87
  go_wp2_with fail
  generalize w.alloc (.cells #[.int .i64 (sc : Int), .int .i64 (fr : Int), .int .i64 (te : Int), .int .i64 (d : Int)] 176) = w1 at *
  generalize hp : w.heap.size = p at *
  have HP := hide hp
  clear hp
  have a0 : w1.cell? ⟨br, 0, none⟩ = some (.pointer (some ⟨r, 0, none⟩)) := cell_row (l := [_]) H1.out.1.hbr 0
  have a1 := H1.out.1.rg.c0
  have a2 : w1.cell? ⟨p, 0, none⟩ = some (.int .i64 (sc : Int)) := cell_row H1.out.2 0
  have hS0 := And.intro a0 (And.intro a1 a2)
  have HX : Hid (∀ w2 : World, w1.grownBy w2 none → Calls Tryz.prog 88 #[.pointer (some ⟨b, 0, none⟩), .int .i64 (sc : Int)] w2 fun e w' => ∃ g2 : Nat, e = .returned (.tuple #[.slice (some ⟨g2, 0, none⟩) size size, .int .i64 0]) ∧
      (RdS w0 w' n size b s.next k D W r F C br bo g m acc ∧ w'.heap[p]? = some (.cells (pcells sc fr te d).toArray 176 (0, 0)) ∧ w'.heap[g2]? = some (.cells (bv (found size D W sc)).toArray 5 (0, 0)) ∧ g2 ≠ g ∧ Kept w1 w' (fun i => k.own i ∨ i = b))) := by
    intro w2 hg2
    have hR := H1.out.1.then hg2
    have hP2 := (hg2.block _ (row_lt H1.out.2) (by simp)).trans H1.out.2
    refine (dread_go hR.dev hc hgo sc hsc).mono ?_
    rintro e w' ⟨g2, rfl, q1, q2, q3, q4⟩
    have hf := hR.dev.far hP2 (by decide) (by decide) (by decide) (by decide)
    exact ⟨g2, rfl, hR.goes q3 q4, q4.other hP2 hf.1 hf.2, q2, (fun e => by have := row_lt hR.hg; omega), (Kept.new hg2 _).trans q4.kept (fun _ _ e => e)⟩
  go_region_held3 (fun w' => w'.cell? ⟨br, 0, none⟩ = some (.pointer (some ⟨r, 0, none⟩)) ∧ w'.cell? ⟨r, 0, none⟩ = some (.pointer (some ⟨b, 0, none⟩)) ∧ w'.cell? ⟨p, 0, none⟩ = some (.int .i64 (sc : Int))) (first | assumption | go_keep) (first
    | (go_at_call 88; refine (HX.out _ (grown_drew _ _)).mono ?_; rintro e w2 ⟨g2, rfl, hq⟩; have H2 := hide hq; clear hq; have hS2 : w2.cell? ⟨br, 0, none⟩ = some (.pointer (some ⟨r, 0, none⟩)) ∧ w2.cell? ⟨r, 0, none⟩ = some (.pointer (some ⟨b, 0, none⟩)) ∧ w2.cell? ⟨p, 0, none⟩ = some (.int .i64 (sc : Int)) := ⟨cell_row (l := [_]) H2.out.1.hbr 0, H2.out.1.rg.c0, cell_row H2.out.2.1 0⟩))
  rename_i hHeld
  clear hHeld hS2 hS0 a0 a1 a2 HX
  have b0 : w2.cell? ⟨bo, 0, none⟩ = some (.slice (some ⟨g, 0, none⟩) m m) := cell_row (l := [_]) H2.out.1.hbo 0
  have b1 : w2.cell? ⟨p, 1, none⟩ = some (.int .i64 (fr : Int)) := cell_row H2.out.2.1 1
  have b2 : w2.cell? ⟨p, 2, none⟩ = some (.int .i64 (te : Int)) := cell_row H2.out.2.1 2
  have b3 : w2.cell? ⟨p, 3, none⟩ = some (.int .i64 (d : Int)) := cell_row H2.out.2.1 3
  have hsl1 := slice_from g m m d (by omega) (Nat.le_refl _)
  have hsl2 := slice_lh g2 size size fr te hft hte
  obtain ⟨XV, hXV⟩ : ∃ XV, XV = bv (((found size D W sc).drop fr).take (te - fr)) := ⟨_, rfl⟩
  obtain ⟨AV, hAV⟩ : ∃ AV, AV = bv acc := ⟨_, rfl⟩
  have HCP : Hid (∀ w3 : World, w2.grownBy w3 none → w3.heap[g]? = some (.cells AV.toArray 5 (0, 0)) ∧ XV.length = Nat.min (te - fr) (m - d) ∧
      (0 < XV.length → ∃ ad, some (⟨g2, fr, none⟩ : Addr) = some ad ∧ ∀ j v, XV[j]? = some v → w3.cell? (ad.add j) = some v) ∧ d + XV.length ≤ AV.length ∧ (∀ v ∈ XV, v.oneCell' = true)) := by
    intro w3 hg3
    have hl := hlen.out
    have hlx : XV.length = te - fr := by rw [hXV, bv_length]; simp; omega
    have hla : AV.length = m := by rw [hAV, bv_length]; exact H2.out.1.len
    refine ⟨by rw [hAV]; exact (hg3.block _ (row_lt H2.out.1.hg) (by simp)).trans H2.out.1.hg, by rw [hlx]; exact (Nat.min_eq_left (by omega)).symm, fun _ => ⟨_, rfl, ?_⟩, by omega, ?_⟩
    · intro i v hv
      rw [hXV, bv, List.getElem?_map] at hv
      cases hj : (((found size D W sc).drop fr).take (te - fr))[i]? with
      | none => simp [hj] at hv
      | some y =>
        simp [hj] at hv
        obtain ⟨a', ea', hc'⟩ := ((at_drop ((hg3.block _ (row_lt H2.out.2.2.1) (by simp)).trans H2.out.2.2.1) fr).take (te - fr)) i y hj
        cases ea'
        rw [← hv]; exact hc'
    · intro v hv; rw [hXV, bv, List.mem_map] at hv; obtain ⟨y, _, rfl⟩ := hv; rfl
  have HTT : Hid (∀ w5 : World, w2.grownBy w5 (some g) → w5.cell? ⟨bo, 0, none⟩ = some (.slice (some ⟨g, 0, none⟩) m m) ∧ w5.cell? ⟨p, 1, none⟩ = some (.int .i64 (fr : Int)) ∧ w5.cell? ⟨p, 2, none⟩ = some (.int .i64 (te : Int)) ∧ w5.cell? ⟨p, 3, none⟩ = some (.int .i64 (d : Int))) := by
    intro w5 hg5
    have n1 : some bo ≠ some g := fun e => by have e := Option.some.inj e; have := H2.out.1.hbo; rw [e, H2.out.1.hg] at this; simp at this
    have n2 : some p ≠ some g := fun e => by have e := Option.some.inj e; have := H2.out.2.1; rw [e, H2.out.1.hg] at this; simp at this
    exact ⟨hg5.cell b0 n1, hg5.cell b1 n2, hg5.cell b2 n2, hg5.cell b3 n2⟩
  have HEQ := hide (And.intro hXV hAV)
  clear hXV hAV
  have hT0 := And.intro b0 (And.intro b1 (And.intro b2 b3))
  go_wp2_with fail
  go_region_held3 (fun w' => w'.cell? ⟨bo, 0, none⟩ = some (.slice (some ⟨g, 0, none⟩) m m) ∧ w'.cell? ⟨p, 1, none⟩ = some (.int .i64 (fr : Int)) ∧ w'.cell? ⟨p, 2, none⟩ = some (.int .i64 (te : Int)) ∧ w'.cell? ⟨p, 3, none⟩ = some (.int .i64 (d : Int))) (first | assumption | go_keep) (first
    | (refine step_copy_grown rfl (.tmp 23) (.tmp 29) 39 39 rfl 5 Tryz.underlying39 Tryz.size5 (some ⟨g, d, none⟩) (some ⟨g2, fr, none⟩) (m - d) (m - d) (te - fr) (size - fr) (by rfl) (by rfl) g d AV 5 (HCP.out _ (grown_drew _ _)).1 XV (HCP.out _ (grown_drew _ _)).2.1 (fun hp => ⟨rfl, (HCP.out _ (grown_drew _ _)).2.2.1 hp⟩) (HCP.out _ (grown_drew _ _)).2.2.2.1 (HCP.out _ (grown_drew _ _)).2.2.2.2 ?_; intro w5 H5 hg5'; have hg5 := grown_trans (grown_none (grown_drew w2 none) (some g)) hg5'; clear hg5'; have hT5 := HTT.out w5 hg5))
  rename_i hHeld
  have H6 : Hid (RdS w0 w5 n size b s.next k D W r F C br bo g m (splice acc d (((found size D W sc).drop fr).take (te - fr))) ∧ Kept w w5 (fun i => k.own i ∨ i = b ∨ i = g)) := by
    obtain ⟨e1, e2⟩ := HEQ.out
    have hl := hlen.out
    refine ⟨H2.out.1.put hg5 (by rw [H5.out, e1, e2, bv_splice]) (by rw [length_splice _ _ _ (by rw [H2.out.1.len]; simp; omega)]; exact H2.out.1.len), ?_⟩
    exact ((Kept.new G1.out _).trans H2.out.2.2.2.2 (fun i _ e => e.imp id .inl)).trans (Kept.of hg5 (S := fun i => i = g) (fun _ e _ => (Option.some.inj e).symm)) (fun i _ e => .inr (.inr e))
  clear hHeld hT5 hT0 hg5 H5 b0 b1 b2 b3 HTT HCP HEQ hsl1 hsl2
  go_wp2
  go_ret
  exact ⟨rfl, H6.out⟩
set_option maxRecDepth 20000 in
set_option maxHeartbeats 4000000 in
theorem rd1_no (h : RdS w0 w n size b s k D W r F C br bo g m acc) (hc : s.cnt < 100000) (hgo : s.goes = false) (sc fr te d : Int) :
    Calls Tryz.prog 87 #[.agg #[.int .i64 sc, .int .i64 fr, .int .i64 te, .int .i64 d], .pointer (some ⟨br, 0, none⟩), .pointer (some ⟨bo, 0, none⟩)] w fun e w' => e = .returned (.int .i64 60) ∧ RdS w0 w' n size b s.next k D W r F C br bo g m acc ∧ Kept w w' (fun i => k.own i ∨ i = b) := by
  have g1 := World.grownBy_alloc w (.cells #[.int .i64 sc, .int .i64 fr, .int .i64 te, .int .i64 d] 176) none
  have H1 := hide (And.intro (h.then g1) (part_new w sc fr te d))
  have G1 := hide g1
  clear h g1
  go_enter Tryz.func87, Tryz.ntmps87
  go_wp2_with fail
  generalize w.alloc (.cells #[.int .i64 sc, .int .i64 fr, .int .i64 te, .int .i64 d] 176) = w1 at *
  generalize hp : w.heap.size = p at *
  have HP := hide hp
  clear hp
  have a0 : w1.cell? ⟨br, 0, none⟩ = some (.pointer (some ⟨r, 0, none⟩)) := cell_row (l := [_]) H1.out.1.hbr 0
  have a1 := H1.out.1.rg.c0
  have a2 : w1.cell? ⟨p, 0, none⟩ = some (.int .i64 sc) := cell_row H1.out.2 0
  have hS0 := And.intro a0 (And.intro a1 a2)
  have HX : Hid (∀ w2 : World, w1.grownBy w2 none → Calls Tryz.prog 88 #[.pointer (some ⟨b, 0, none⟩), .int .i64 sc] w2 fun e w' => e = .returned (.tuple #[.slice none 0 0, .int .i64 60]) ∧
      (RdS w0 w' n size b s.next k D W r F C br bo g m acc ∧ w'.heap[p]? = some (.cells (pcells sc fr te d).toArray 176 (0, 0)) ∧ Kept w1 w' (fun i => k.own i ∨ i = b))) := by
    intro w2 hg2
    have hR := H1.out.1.then hg2
    have hP2 := (hg2.block _ (row_lt H1.out.2) (by simp)).trans H1.out.2
    refine (dread_no hR.dev hc hgo sc).mono ?_
    rintro e w' ⟨rfl, q3, q4⟩
    have hf := hR.dev.far hP2 (by decide) (by decide) (by decide) (by decide)
    exact ⟨rfl, hR.goes q3 q4, q4.other hP2 hf.1 hf.2, (Kept.new hg2 _).trans q4.kept (fun _ _ e => e)⟩
  go_region_held3 (fun w' => w'.cell? ⟨br, 0, none⟩ = some (.pointer (some ⟨r, 0, none⟩)) ∧ w'.cell? ⟨r, 0, none⟩ = some (.pointer (some ⟨b, 0, none⟩)) ∧ w'.cell? ⟨p, 0, none⟩ = some (.int .i64 sc)) (first | assumption | go_keep) (first
    | (go_at_call 88; refine (HX.out _ (grown_drew _ _)).mono ?_; rintro e w2 ⟨rfl, hq⟩; have H2 := hide hq; clear hq; have hS2 : w2.cell? ⟨br, 0, none⟩ = some (.pointer (some ⟨r, 0, none⟩)) ∧ w2.cell? ⟨r, 0, none⟩ = some (.pointer (some ⟨b, 0, none⟩)) ∧ w2.cell? ⟨p, 0, none⟩ = some (.int .i64 sc) := ⟨cell_row (l := [_]) H2.out.1.hbr 0, H2.out.1.rg.c0, cell_row H2.out.2.1 0⟩))
  rename_i hHeld
  clear hHeld hS2 hS0 a0 a1 a2 HX
  go_wp2
  go_ret
  exact ⟨rfl, H2.out.1, (Kept.new G1.out _).trans H2.out.2.2 (fun _ _ e => e)⟩
end
end Go.Proofs.YtonokaelbpfjnabGreatDoor
/- A region's read. -/
namespace Go.Proofs.YtonokaelbpfjnabGreatDoor
open Go.RowKit Ap
attribute [local go_sem ↓] Go.wp_at_zero Go.wp_at_succ

section
variable {w0 w w' : World} {n size b r F C : Nat} {s s' : Dv} {k : Dk} {D : List Nat} {W : List Wt}
set_option maxRecDepth 20000 in
set_option maxHeartbeats 4000000 in
theorem gRead_any (h : Dev w0 w n size b s k D W) (hr : RgAt w r b F C) (hC : C ≤ 65536) (at_ m : Nat) (hfit : at_ + m ≤ C * size) (hm : m ≤ 268435456) (Post : Value → Int → World → Prop)
    (heach : ∀ w1 br bo g, w.grownBy w1 none → w.heap.size ≤ g → RdS w0 w1 n size b s k D W r F C br bo g m (zs m) →
      Calls Tryz.prog 86 #[.pointer (some ⟨r, 0, none⟩), .int .i64 (at_ : Int), .int .i64 (m : Int), .func (.func 87) #[] #[.pointer (some ⟨br, 0, none⟩), .pointer (some ⟨bo, 0, none⟩)]] w1 fun e w' => ∃ c : Int, e = .returned (.int .i64 c) ∧ (c = 0 ∧ w'.heap[bo]? = some (.cells #[.slice (some ⟨g, 0, none⟩) m m] 39 (0, 0)) ∧ Post (.slice (some ⟨g, 0, none⟩) m m) 0 w' ∨ c ≠ 0 ∧ Post (.slice none 0 0) c w')) :
    Calls Tryz.prog 50 #[.pointer (some ⟨r, 0, none⟩), .int .i64 (at_ : Int), .int .i64 (m : Int)] w fun e w' => ∃ v c, e = .returned (.tuple #[v, .int .i64 c]) ∧ Post v c w' := by
  have hB : C * size ≤ 65536 * 4096 := Nat.mul_le_mul hC h.disk.disk.shape.s1
  have e0 : mcode (C * size) at_ m = 0 := by unfold mcode; rw [if_pos (by omega)]
  have HM : Hid (∀ w1 : World, w.grownBy w1 none → Calls Tryz.prog 85 #[.pointer (some ⟨r, 0, none⟩), .int .i64 (at_ : Int), .int .i64 (m : Int)] w1 fun e w' => e = .returned (.int .i64 0) ∧ w1.grownBy w' none) := by
    intro w1 hg
    have := gmay_at (h.then hg) (hr.grown hg) hC at_ m (by omega)
    rw [e0] at this
    exact this.mono (by rintro e w' ⟨rfl, q, rfl⟩; exact ⟨rfl, grown_drewN _ _ _⟩)
  have HH := hide (And.intro h hr)
  have HE := hide heach
  have hmk := make_bytes m (by omega)
  have G1 := hide (World.grownBy_alloc w (.cells #[.pointer (some ⟨r, 0, none⟩)] 65) none)
  have N1 : Hid ((w.alloc (.cells #[.pointer (some ⟨r, 0, none⟩)] 65)).heap[w.heap.size]? = some (.cells #[.pointer (some ⟨r, 0, none⟩)] 65 (0, 0))) := heap_alloc_new w _
  have c0 : (w.alloc (.cells #[.pointer (some ⟨r, 0, none⟩)] 65)).cell? ⟨w.heap.size, 0, none⟩ = some (.pointer (some ⟨r, 0, none⟩)) := cell_row (l := [_]) N1.out 0
  clear h hr heach e0
  go_enter Tryz.func50, Tryz.ntmps50
  go_wp2_with fail
  generalize w.alloc (.cells #[.pointer (some ⟨r, 0, none⟩)] 65) = w1 at *
  generalize hbr : w.heap.size = br at *
  have HB := hide hbr
  clear hbr
  refine (HM.out _ G1.out).mono ?_
  rintro e w2 ⟨rfl, g2⟩
  have N2 := hide ((g2.block _ (row_lt N1.out) (by simp)).trans N1.out)
  have c2 : w2.cell? ⟨br, 0, none⟩ = some (.pointer (some ⟨r, 0, none⟩)) := cell_row (l := [_]) N2.out 0
  have G2 := hide (grown_trans G1.out g2)
  clear g2 c0 N1 G1 HM
  have g3 := World.grownBy_alloc w2 (.cells (bv (zs m)).toArray 5) none
  have g4 := World.grownBy_alloc (w2.alloc (.cells (bv (zs m)).toArray 5)) (.cells #[.slice (some ⟨w2.heap.size, 0, none⟩) m m] 39) none
  have z3 : (w2.alloc (.cells (bv (zs m)).toArray 5)).heap.size = w2.heap.size + 1 := Array.size_push ..
  have n3 : (w2.alloc (.cells (bv (zs m)).toArray 5)).heap[w2.heap.size]? = some (.cells (bv (zs m)).toArray 5 (0, 0)) := heap_alloc_new w2 _
  have n4 := heap_alloc_new (w2.alloc (.cells (bv (zs m)).toArray 5)) (.cells #[.slice (some ⟨w2.heap.size, 0, none⟩) m m] 39)
  rw [z3] at n4
  have c4 : ((w2.alloc (.cells (bv (zs m)).toArray 5)).alloc (.cells #[.slice (some ⟨w2.heap.size, 0, none⟩) m m] 39)).cell? ⟨br, 0, none⟩ = some (.pointer (some ⟨r, 0, none⟩)) := (grown_trans g3 g4).cell c2 (by simp)
  have HR : Hid (w.grownBy ((w2.alloc (.cells (bv (zs m)).toArray 5)).alloc (.cells #[.slice (some ⟨w2.heap.size, 0, none⟩) m m] 39)) none ∧ w.heap.size ≤ w2.heap.size ∧ RdS w0 ((w2.alloc (.cells (bv (zs m)).toArray 5)).alloc (.cells #[.slice (some ⟨w2.heap.size, 0, none⟩) m m] 39)) n size b s k D W r F C br (w2.heap.size + 1) w2.heap.size m (zs m)) := by
    have gg := grown_trans (grown_trans G2.out g3) g4
    refine ⟨gg, G2.out.size, ⟨HH.out.1.then gg, HH.out.2.grown gg, ((grown_trans g3 g4).block _ (row_lt N2.out) (by simp)).trans N2.out, n4, (g4.block _ (row_lt n3) (by simp)).trans n3, by simp [zs], ?_, ?_⟩⟩
    · intro hf
      have := HH.out.1.disk.disk.lt _ hf
      have := G2.out.size
      omega
    · have := HH.out.1.disk.grown.size
      have := G2.out.size
      omega
  clear g3 g4 z3 n3 n4 c2 N2
  go_wp2_with fail
  generalize (w2.alloc (.cells (bv (zs m)).toArray 5)).alloc (.cells #[.slice (some ⟨w2.heap.size, 0, none⟩) m m] 39) = w4 at *
  generalize w2.heap.size + 1 = bo at *
  generalize w2.heap.size = g at *
  refine (HE.out w4 br bo g HR.out.1 (by have := HR.out.2.1; have := HB.out; omega) HR.out.2.2).mono ?_
  rintro e w5 ⟨c, rfl, h5⟩
  have H5 := hide h5
  clear h5
  by_cases hc0 : c = 0
  · subst hc0
    have H6 := hide (H5.out.elim (fun h => h.2) (fun h => absurd rfl h.1))
    have c6 : w5.cell? ⟨bo, 0, none⟩ = some (.slice (some ⟨g, 0, none⟩) m m) := cell_row (l := [_]) H6.out.1 0
    go_wp2
    go_ret2
    exact ⟨_, _, rfl, H6.out.2⟩
  · have H6 := hide (H5.out.elim (fun h => absurd h.1 hc0) (fun h => h.2))
    go_wp2
    go_ret2
    exact ⟨_, _, rfl, H6.out⟩
/-- The bytes that a read tells. -/
def bytesAt (A : List Nat) (o m : Nat) : List Nat := (A.drop o).take m
theorem bytesAt_length {A : List Nat} {o m : Nat} (h : o + m ≤ A.length) : (bytesAt A o m).length = m := by simp [bytesAt]; omega
theorem bytesAt_get (A : List Nat) (o m i : Nat) : (bytesAt A o m)[i]? = if i < m then A[o + i]? else none := by simp [bytesAt, List.getElem?_take, List.getElem?_drop]
/-- The next piece. -/
theorem acc_next {size at_ m j F d te fr S : Nat} {A : List Nat} {N : Nat} (hN : PcN size at_ m j S d fr te) (hs : 0 < size) (hj : j < pcn size at_ m) (hA : A.length = N * size) (hfit : F * size + at_ + m ≤ N * size) :
    splice (splice (zs m) 0 ((bytesAt A (F * size + at_) m).take d)) d (((secOf size A (F + S)).drop fr).take (te - fr)) = splice (zs m) 0 ((bytesAt A (F * size + at_) m).take (min m ((at_ / size + (j + 1)) * size - at_))) := by
  obtain ⟨h1, h2, h3, h4⟩ := pc_facts hs hj
  have hlt : F + S < N := by
    apply Nat.lt_of_mul_lt_mul_right (a := size)
    rw [Nat.add_mul, ← hN.eS]
    omega
  have hsl := secOf_length hA hlt
  have hbl : (bytesAt A (F * size + at_) m).length = m := bytesAt_length (by omega)
  have hz : (zs m).length = m := by simp [zs]
  have e : (F + S) * size = F * size + S * size := Nat.add_mul _ _ _
  rw [← hN.nx]
  have k1 := hN.ed
  have k2 := hN.ef
  have k3 := hN.et
  have k4 := hN.f1
  have k5 := hN.t1
  rw [hN.eS] at k1 k2 k3 h3 h4
  have l1 : ((bytesAt A (F * size + at_) m).take d).length = d := by simp [hbl]; have := hN.d1; omega
  have l2 : (((secOf size A (F + S)).drop fr).take (te - fr)).length = te - fr := by simp [hsl]; omega
  have l3 : ((bytesAt A (F * size + at_) m).take (d + (te - fr))).length = d + (te - fr) := by simp [hbl]; omega
  have l4 : (splice (zs m) 0 ((bytesAt A (F * size + at_) m).take d)).length = m := by rw [length_splice _ _ _ (by have := hN.d1; omega), hz]
  apply List.ext_getElem?
  intro i
  rw [splice_get _ _ _ _ (by omega), splice_get _ _ _ _ (by have := hN.d1; omega), splice_get _ _ _ _ (by omega), l1, l2, l3, List.getElem?_take, List.getElem?_take, List.getElem?_take, List.getElem?_drop, secOf_get, bytesAt_get, e]
  generalize S * size = Q at *
  by_cases hx : d ≤ i ∧ i < d + (te - fr)
  · rw [if_pos hx, if_pos (by omega), if_pos (by omega), if_pos (by omega), if_pos (by omega)]
    rw [if_pos (by omega)]
    congr 1; omega
  · rw [if_neg hx]
    by_cases hy : i < d
    · rw [if_pos (by omega), if_pos (by omega), if_pos (by omega), if_pos (by omega)]
      simp
      intro hh; omega
    · rw [if_neg (by omega), if_neg (by omega)]
theorem Dv.goes_next_cnt {s : Dv} (h : s.goes = true) : s.next.cnt = s.cnt + 1 := by
  unfold Dv.goes at h
  unfold Dv.next
  cases h1 : s.off with
  | true => rw [h1] at h; simp at h
  | false =>
    rw [h1] at h
    simp at h
    simp [h]
/-- What a read leaves, and tells. -/
structure ReadP (w0 w w' : World) (n size b : Nat) (s : Dv) (k : Dk) (D : List Nat) (W : List Wt) (m M : Nat) (xs : List Nat) (v : Value) (c : Int) : Prop where
  code : c = (rgo M s).1
  dev : Dev w0 w' n size b (rgo M s).2 k D W
  kept : Kept w w' (fun i => k.own i ∨ i = b)
  ok : c = 0 → ∃ g, v = .slice (some ⟨g, 0, none⟩) m m ∧ w.heap.size ≤ g ∧ w'.heap[g]? = some (.cells (bv xs).toArray 5 (0, 0)) ∧ xs.length = m
  no : c ≠ 0 → v = .slice none 0 0
set_option maxHeartbeats 1000000 in
theorem gRead_at (h : Dev w0 w n size b s k D W) (hr : RgAt w r b F C) (hFC : F + C ≤ n) (at_ m : Nat) (hfit : at_ + m ≤ C * size) (hcnt : s.cnt + pcn size at_ m ≤ 100000) :
    Calls Tryz.prog 50 #[.pointer (some ⟨r, 0, none⟩), .int .i64 (at_ : Int), .int .i64 (m : Int)] w fun e w' => ∃ v c, e = .returned (.tuple #[v, .int .i64 c]) ∧ ReadP w0 w w' n size b s k D W m (pcn size at_ m) (bytesAt (now size D (abs W)) (F * size + at_) m) v c := by
  have sh := h.disk.disk.shape
  have s0 := sh.s0
  have s1 := sh.s1
  have n1 := sh.n1
  have hall : C * size ≤ n * size := Nat.mul_le_mul_right _ (by omega)
  have hB : n * size ≤ 67108864 := sh.all
  have hFn : (F + C) * size ≤ n * size := Nat.mul_le_mul_right _ hFC
  rw [Nat.add_mul] at hFn
  have hA := now_len h.disk.disk.len h.disk.disk.fitsW
  refine gRead_any h hr (by omega) at_ m hfit (by omega) _ ?_
  intro w1 br bo g hg1 hgl hR
  have hd := each_any w1 r b F at_ m size n 87 (.pointer (some ⟨br, 0, none⟩)) (.pointer (some ⟨bo, 0, none⟩))
    (fun j w' => ∃ sj, rgo (pcn size at_ m) s = rgo (pcn size at_ m - j) sj ∧ sj.cnt ≤ s.cnt + j ∧ RdS w0 w' n size b sj k D W r F C br bo g m (splice (zs m) 0 ((bytesAt (now size D (abs W)) (F * size + at_) m).take (min m ((at_ / size + j) * size - at_)))) ∧ Kept w1 w' (fun i => k.own i ∨ i = b ∨ i = g))
    (fun c w' => c = (rgo (pcn size at_ m) s).1 ∧ Dev w0 w' n size b (rgo (pcn size at_ m) s).2 k D W ∧ Kept w1 w' (fun i => k.own i ∨ i = b ∨ i = g))
    (.inl rfl) (by omega) s1 (by omega) (by omega) ?_ ?_ ?_ (dsize_any hR.dev) ?_
  · refine hd.mono ?_
    rintro e w' ⟨c, rfl, ⟨rfl, sj, e1, e2, e3, e4⟩ | ⟨hc0, e1, e2, e3⟩⟩
    · rw [Nat.sub_self] at e1
      rw [Nat.min_eq_left (pc_last (by omega)), List.take_of_length_le (by rw [bytesAt_length (by omega)]; exact Nat.le_refl _), splice_full _ _ (by rw [bytesAt_length (by omega)]; simp [zs])] at e3
      refine ⟨0, rfl, .inl ⟨rfl, e3.hbo, ⟨by rw [e1]; rfl, by rw [e1]; exact e3.dev, ((Kept.new hg1 _).trans e4 (fun i hi e => ?_)), fun _ => ⟨g, rfl, hgl, e3.hg, bytesAt_length (by omega)⟩, fun h => absurd rfl h⟩⟩⟩
      rcases e with e | e | e
      · exact .inl e
      · exact .inr e
      · omega
    · refine ⟨c, rfl, .inr ⟨hc0, ⟨e1, e2, ((Kept.new hg1 _).trans e3 (fun i hi e => ?_)), fun h => absurd h hc0, fun _ => rfl⟩⟩⟩
      rcases e with e | e | e
      · exact .inl e
      · exact .inr e
      · omega
  · have hz : (at_ / size + 0) * size - at_ = 0 := by rw [Nat.add_zero]; have := Nat.div_mul_le_self at_ size; omega
    exact ⟨s, by rw [Nat.sub_zero], by omega, by rw [hz, Nat.min_zero, List.take_zero, splice_nil]; exact hR, Kept.refl _ _⟩
  · rintro j w' q ⟨sj, e1, e2, e3, e4⟩
    exact ⟨sj, e1, e2, e3.then (grown_drewN _ _ _), e4.trans (Kept.new (grown_drewN _ _ _) _) (fun _ _ e => e)⟩
  · rintro j w' ⟨sj, e1, e2, e3, e4⟩
    exact ⟨e3.rg.c0, e3.rg.c1⟩
  · rintro j w' hj ⟨sj, e1, e2, e3, e4⟩
    obtain ⟨S, d, fr, te, N⟩ := pc_nums (by omega) (by omega) hj
    have hS : F + S < n := by
      obtain ⟨h1, h2, h3, h4⟩ := pc_facts (by omega) hj
      apply Nat.lt_of_mul_lt_mul_right (a := size)
      rw [Nat.add_mul, ← N.eS]
      omega
    have hacc := acc_next (F := F) N (by omega) hj hA (by omega)
    unfold partV
    rw [N.ed, N.ef, N.et, N.eS]
    rw [N.ed, N.d2] at e3
    have nd := N.d1
    have nx := N.nx
    obtain ⟨q, hq⟩ : ∃ q, pcn size at_ m - j = q + 1 := ⟨pcn size at_ m - j - 1, by omega⟩
    rw [hq] at e1
    cases hgo : sj.goes with
    | true =>
      refine (rd1_go e3 (by omega) hgo (F + S) fr te d hS N.f1 N.t1 (by omega)).mono ?_
      rintro e w2 ⟨rfl, q1, q2⟩
      rw [← now_found h.disk.disk.len h.disk.disk.fitsW (F + S) hS, hacc] at q1
      refine ⟨0, rfl, .inl ⟨rfl, sj.next, ?_, ?_, q1, e4.trans q2 (fun _ _ e => e)⟩⟩
      · rw [e1, rgo, if_pos hgo]; congr 1; omega
      · rw [Dv.goes_next_cnt hgo]; omega
    | false =>
      refine (rd1_no e3 (by omega) hgo _ _ _ _).mono ?_
      rintro e w2 ⟨rfl, q1, q2⟩
      refine ⟨60, rfl, .inr ⟨by omega, ?_, ?_, e4.trans q2 (fun _ _ e => e.imp id .inl)⟩⟩
      · rw [e1, rgo, hgo]; rfl
      · rw [e1, rgo, hgo]; exact q1.dev
end
end Go.Proofs.YtonokaelbpfjnabGreatDoor
/- A region's write: one sector of it. -/
namespace Go.Proofs.YtonokaelbpfjnabGreatDoor
open Go.RowKit Ap
attribute [local go_sem ↓] Go.wp_at_zero Go.wp_at_succ

theorem slice_lhA (a : Addr) (len cap lo hi : Nat) (h : lo < hi) (h2 : hi ≤ cap) (w : World) : (Instr.slice 39 (.slice (some a) len cap) (some (.int .i64 (lo : Int))) (some (.int .i64 (hi : Int))) none).run Tryz.prog w = .ok (.slice (some (a.add lo)) (hi - lo) (cap - lo)) w := by
  simp [Instr.slice, run_underlying Tryz.underlying39, Instr.sliceBounds, Instr.sliceBound, asIntOf, Nat.le_of_lt h, h2]
  intro e; omega
theorem at_from {w : World} {a : Addr} {xs : List Nat} (h : At w (some a) xs) (d : Nat) : At w (some (a.add d)) (xs.drop d) := by
  intro j u hu
  rw [List.getElem?_drop] at hu
  obtain ⟨a', e, hc⟩ := h (d + j) u hu
  cases e
  exact ⟨_, rfl, by rw [Addr.add_add]; exact hc⟩
section
variable {w0 w w' w'' : World} {n size b r F C : Nat} {s s' : Dv} {k k' : Dk} {D : List Nat} {W W' : List Wt}
/-- A foreign block is written. -/
theorem Dev.row {g : Nat} (h : Dev w0 w n size b s k D W) (hg : w.grownBy w' (some g)) (hf : ¬ foot k W g) (hb : g ≠ b) (hl : w0.heap.size ≤ g) : Dev w0 w' n size b s k D W :=
  ⟨h.disk.row hg (fun _ hi e => hf (e ▸ hi)) hl, h.dev.same (hg.block b h.dev.lt (fun e => hb (Option.some.inj e).symm)), h.low⟩
theorem DvM.newrow {g : Nat} (h : DvM w w' b k k' W W') (hg : w'.grownBy w'' (some g)) (hn : w.heap.size ≤ g) : DvM w w'' b k k' W W' :=
  ⟨h.d, h.own, h.blk, h.kept.trans (Kept.of hg (S := fun i => i = g) (fun _ e _ => (Option.some.inj e).symm)) (fun i hi e => by have e : i = g := e; omega)⟩
theorem at_off {S : Nat → Prop} {ao : Option Addr} {xs : List Nat} (h : At w ao xs) (hk : Kept w w' S) (hS : ∀ a, ao = some a → 0 < xs.length → ¬ S a.block) : At w' ao xs := by
  intro j u hu
  obtain ⟨a, e, hc⟩ := h j u hu
  have hl : 0 < xs.length := Nat.lt_of_le_of_lt (Nat.zero_le _) (List.getElem?_eq_some_iff.1 hu).1
  exact ⟨a, e, cell_kept hk hc (by rw [addr_add_block]; exact hS a e hl)⟩
/-- What a write of one sector leaves. -/
def WroteP (w0 w w' : World) (n size b : Nat) (s : Dv) (k : Dk) (D : List Nat) (W : List Wt) (P : List Pr) : Prop := ∃ k' W', Dev w0 w' n size b s k' D W' ∧ DvM w w' b k k' W W' ∧ abs W' = P ∧ W'.length ≤ W.length + 1
def ifP (c : Bool) (x y : List Pr) : List Pr := if c then x else y
theorem dwrite_ok (h : Dev w0 w n size b s k D W) (hW : W.length ≤ 900000) (hc : s.cnt < 100000) (i : Nat) (hi : i < n) (ao : Option Addr) (cap : Nat) (xs : List Nat) (hat : At w ao xs) (hx : xs.length = size) :
    Calls Tryz.prog 117 #[.pointer (some ⟨b, 0, none⟩), .int .i64 (i : Int), .slice ao size cap] w fun e w' => e = .returned (.int .i64 (s.code 0)) ∧ WroteP w0 w w' n size b s.next k D W (ifP s.goes (abs W ++ [(i, xs)]) (abs W)) := by
  refine (dwrite_any h hW hc (i : Int) ao size cap xs hat hx).mono ?_
  have hi2 : (0 : Int) ≤ (i : Int) ∧ (i : Int) < (n : Int) := by omega
  rw [wcode, if_pos hi2, if_pos rfl, wabs, if_pos hi2, if_pos hx, Int.toNat_natCast]
  exact fun e w' h => h
set_option maxRecDepth 20000 in
set_option maxHeartbeats 4000000 in
theorem turn_no (h : Dev w0 w n size b s k D W) (hr : RgAt w r b F C) (hc : s.cnt < 100000) (hgo : s.goes = false) (sc fr te d : Int) (v : Value) :
    Calls Tryz.prog 118 #[.pointer (some ⟨r, 0, none⟩), .agg #[.int .i64 sc, .int .i64 fr, .int .i64 te, .int .i64 d], v] w fun e w' => e = .returned (.int .i64 60) ∧ WroteP w0 w w' n size b s.next k D W (abs W) := by
  have g1 := World.grownBy_alloc w (.cells #[.int .i64 sc, .int .i64 fr, .int .i64 te, .int .i64 d] 176) none
  have H1 := hide (And.intro (h.then g1) (And.intro (hr.grown g1) (part_new w sc fr te d)))
  have G1 := hide g1
  clear h hr g1
  go_enter Tryz.func118, Tryz.ntmps118
  go_wp2_with fail
  generalize w.alloc (.cells #[.int .i64 sc, .int .i64 fr, .int .i64 te, .int .i64 d] 176) = w1 at *
  generalize hp : w.heap.size = p at *
  have HP := hide hp
  clear hp
  have a1 := H1.out.2.1.c0
  have a2 : w1.cell? ⟨p, 0, none⟩ = some (.int .i64 sc) := cell_row H1.out.2.2 0
  have hS0 := And.intro a1 a2
  have HX : Hid (∀ w2 : World, w1.grownBy w2 none → Calls Tryz.prog 88 #[.pointer (some ⟨b, 0, none⟩), .int .i64 sc] w2 fun e w' => e = .returned (.tuple #[.slice none 0 0, .int .i64 60]) ∧
      (Dev w0 w' n size b s.next k D W ∧ DvM w1 w' b k k W W ∧ RgAt w' r b F C ∧ w'.heap[p]? = some (.cells (pcells sc fr te d).toArray 176 (0, 0)))) := by
    intro w2 hg2
    have hR := H1.out.1.then hg2
    have hG2 := H1.out.2.1.grown hg2
    have hP2 := (hg2.block _ (row_lt H1.out.2.2) (by simp)).trans H1.out.2.2
    refine (dread_no hR hc hgo sc).mono ?_
    rintro e w' ⟨rfl, q3, q4⟩
    have hf := hR.far hP2 (by decide) (by decide) (by decide) (by decide)
    have hf2 := hR.far hG2.head (by decide) (by decide) (by decide) (by decide)
    exact ⟨rfl, q3, DvM.pre hg2 q4, ⟨q4.other hG2.head hf2.1 hf2.2⟩, q4.other hP2 hf.1 hf.2⟩
  go_region_held3 (fun w' => w'.cell? ⟨r, 0, none⟩ = some (.pointer (some ⟨b, 0, none⟩)) ∧ w'.cell? ⟨p, 0, none⟩ = some (.int .i64 sc)) (first | assumption | go_keep) (first
    | (go_at_call 88; refine (HX.out _ (grown_drew _ _)).mono ?_; rintro e w2 ⟨rfl, hq⟩; have H2 := hide hq; clear hq; have hS2 : w2.cell? ⟨r, 0, none⟩ = some (.pointer (some ⟨b, 0, none⟩)) ∧ w2.cell? ⟨p, 0, none⟩ = some (.int .i64 sc) := ⟨H2.out.2.2.1.c0, cell_row H2.out.2.2.2 0⟩))
  rename_i hHeld
  clear hHeld hS2 hS0 a1 a2 HX
  go_wp2
  go_ret
  exact ⟨rfl, k, W, H2.out.1, DvM.pre G1.out H2.out.2.1, rfl, by omega⟩
set_option maxRecDepth 20000 in
set_option maxHeartbeats 4000000 in
theorem turn_go (h : Dev w0 w n size b s k D W) (hr : RgAt w r b F C) (hW : W.length ≤ 900000) (hc : s.cnt + 1 < 100000) (hgo : s.goes = true) (sc fr te : Nat) (d : Int) (hsc : sc < n) (hft : fr < te) (hte : te ≤ size) (ao : Option Addr) (cap : Nat) (xs : List Nat) (hat : At w ao xs) (hx : xs.length = te - fr) (hao : ∀ a, ao = some a → ¬ k.own a.block ∧ a.block ≠ b) :
    Calls Tryz.prog 118 #[.pointer (some ⟨r, 0, none⟩), .agg #[.int .i64 (sc : Int), .int .i64 (fr : Int), .int .i64 (te : Int), .int .i64 d], .slice ao (te - fr) cap] w fun e w' => e = .returned (.int .i64 (s.next.code 0)) ∧ WroteP w0 w w' n size b s.next.next k D W (ifP s.next.goes (abs W ++ [(sc, splice (found size D W sc) fr xs)]) (abs W)) := by
  have g1 := World.grownBy_alloc w (.cells #[.int .i64 (sc : Int), .int .i64 (fr : Int), .int .i64 (te : Int), .int .i64 d] 176) none
  have H1 := hide (And.intro (h.then g1) (And.intro (hr.grown g1) (And.intro (part_new w sc fr te d) (hat.grown g1))))
  have G1 := hide g1
  have hlen := hide (found_length h.disk.disk.len h.disk.disk.fitsW sc hsc)
  have hlw := hide h.disk.grown.size
  have HXs := hide (And.intro hx hao)
  have hnc : Hid (s.next.cnt < 100000) := by show s.next.cnt < 100000; rw [Dv.goes_next_cnt hgo]; omega
  clear h hr g1 hat hao hx
  go_enter Tryz.func118, Tryz.ntmps118
  go_wp2_with fail
  generalize w.alloc (.cells #[.int .i64 (sc : Int), .int .i64 (fr : Int), .int .i64 (te : Int), .int .i64 d] 176) = w1 at *
  generalize hp : w.heap.size = p at *
  have HP := hide hp
  clear hp
  have a1 := H1.out.2.1.c0
  have a2 : w1.cell? ⟨p, 0, none⟩ = some (.int .i64 (sc : Int)) := cell_row H1.out.2.2.1 0
  have hS0 := And.intro a1 a2
  have HX : Hid (∀ w2 : World, w1.grownBy w2 none → Calls Tryz.prog 88 #[.pointer (some ⟨b, 0, none⟩), .int .i64 (sc : Int)] w2 fun e w' => ∃ g2 : Nat, e = .returned (.tuple #[.slice (some ⟨g2, 0, none⟩) size size, .int .i64 0]) ∧
      (Dev w0 w' n size b s.next k D W ∧ DvM w1 w' b k k W W ∧ RgAt w' r b F C ∧ w'.heap[p]? = some (.cells (pcells sc fr te d).toArray 176 (0, 0)) ∧ At w' ao xs ∧ w'.heap[g2]? = some (.cells (bv (found size D W sc)).toArray 5 (0, 0)) ∧ w1.heap.size ≤ g2)) := by
    intro w2 hg2
    have hR := H1.out.1.then hg2
    have hG2 := H1.out.2.1.grown hg2
    have hP2 := (hg2.block _ (row_lt H1.out.2.2.1) (by simp)).trans H1.out.2.2.1
    refine (dread_go hR (by omega) hgo sc hsc).mono ?_
    rintro e w' ⟨g2, rfl, q1, q2, q3, q4⟩
    have hf := hR.far hP2 (by decide) (by decide) (by decide) (by decide)
    have hf2 := hR.far hG2.head (by decide) (by decide) (by decide) (by decide)
    exact ⟨g2, rfl, q3, DvM.pre hg2 q4, ⟨q4.other hG2.head hf2.1 hf2.2⟩, q4.other hP2 hf.1 hf.2, at_off (H1.out.2.2.2.grown hg2) q4.kept (fun a e _ hs => hs.elim (HXs.out.2 a e).1 (HXs.out.2 a e).2), q2, Nat.le_trans hg2.size q1⟩
  go_region_held3 (fun w' => w'.cell? ⟨r, 0, none⟩ = some (.pointer (some ⟨b, 0, none⟩)) ∧ w'.cell? ⟨p, 0, none⟩ = some (.int .i64 (sc : Int))) (first | assumption | go_keep) (first
    | (go_at_call 88; refine (HX.out _ (grown_drew _ _)).mono ?_; rintro e w2 ⟨g2, rfl, hq⟩; have H2 := hide hq; clear hq; have hS2 : w2.cell? ⟨r, 0, none⟩ = some (.pointer (some ⟨b, 0, none⟩)) ∧ w2.cell? ⟨p, 0, none⟩ = some (.int .i64 (sc : Int)) := ⟨H2.out.2.2.1.c0, cell_row H2.out.2.2.2.1 0⟩))
  rename_i hHeld
  clear hHeld hS2 hS0 a1 a2 HX
  have b1 : w2.cell? ⟨p, 1, none⟩ = some (.int .i64 (fr : Int)) := cell_row H2.out.2.2.2.1 1
  have b2 : w2.cell? ⟨p, 2, none⟩ = some (.int .i64 (te : Int)) := cell_row H2.out.2.2.2.1 2
  have hsl2 := slice_lh g2 size size fr te hft hte
  obtain ⟨w3, hrun, hW3, hg3⟩ := run_copy_any w2 g2 fr (te - fr) (size - fr) ao (te - fr) cap (found size D W sc) xs H2.out.2.2.2.2.2.1 (by rw [HXs.out.1]; exact (Nat.min_self _).symm) (by rw [HXs.out.1, hlen.out]; omega) H2.out.2.2.2.2.1
  have hwz : w.heap.size ≤ w1.heap.size := G1.out.size
  have H3 : Hid (Dev w0 w3 n size b s.next k D W ∧ DvM w1 w3 b k k W W ∧ RgAt w3 r b F C ∧ w3.heap[p]? = some (.cells (pcells sc fr te d).toArray 176 (0, 0)) ∧ w3.heap[g2]? = some (.cells (bv (splice (found size D W sc) fr xs)).toArray 5 (0, 0))) := by
    obtain ⟨q1, q2, q3, q4, q5, q6, q7⟩ := H2.out
    have nf : ¬ foot k W g2 := fun hf => by have := H1.out.1.disk.disk.lt _ hf; omega
    have nb : g2 ≠ b := fun e => by have := q1.dev.head; rw [← e, q6] at this; simp at this
    have nr : some r ≠ some g2 := fun e => by have e := Option.some.inj e; have := q3.head; rw [e, q6] at this; simp at this
    have np : some p ≠ some g2 := fun e => by have e := Option.some.inj e; have := q4; rw [e, q6] at this; simp at this
    exact ⟨q1.row hg3 nf nb (by have := hlw.out; have := HP.out; omega), q2.newrow hg3 q7, ⟨(hg3.block _ q3.lt nr).trans q3.head⟩, (hg3.block _ (row_lt q4) np).trans q4, hW3⟩
  rw [HXs.out.1] at hrun
  clear hW3 hg3 hwz
  have c1 := H3.out.2.2.1.c0
  have c2 : w3.cell? ⟨p, 0, none⟩ = some (.int .i64 (sc : Int)) := cell_row H3.out.2.2.2.1 0
  have hS3 := And.intro c1 c2
  have HY : Hid (∀ w4 : World, w3.grownBy w4 none → Calls Tryz.prog 117 #[.pointer (some ⟨b, 0, none⟩), .int .i64 (sc : Int), .slice (some ⟨g2, 0, none⟩) size size] w4 fun e w' => e = .returned (.int .i64 (s.next.code 0)) ∧
      (WroteP w0 w1 w' n size b s.next.next k D W (ifP s.next.goes (abs W ++ [(sc, splice (found size D W sc) fr xs)]) (abs W)) ∧ RgAt w' r b F C ∧ w'.heap[p]? = some (.cells (pcells sc fr te d).toArray 176 (0, 0)))) := by
    intro w4 hg4
    have hR := H3.out.1.then hg4
    have hG4 := H3.out.2.2.1.grown hg4
    have hP4 := (hg4.block _ (row_lt H3.out.2.2.2.1) (by simp)).trans H3.out.2.2.2.1
    have hB4 := (hg4.block _ (row_lt H3.out.2.2.2.2) (by simp)).trans H3.out.2.2.2.2
    refine (dwrite_ok hR hW hnc.out sc hsc (some ⟨g2, 0, none⟩) size _ (at_row hB4) (by rw [length_splice _ _ _ (by rw [HXs.out.1, hlen.out]; omega), hlen.out])).mono ?_
    rintro e w' ⟨rfl, k5, W5, q1, q2, q3, q4⟩
    have hf := hR.far hP4 (by decide) (by decide) (by decide) (by decide)
    have hf2 := hR.far hG4.head (by decide) (by decide) (by decide) (by decide)
    have hbl : b < w1.heap.size := H1.out.1.dev.lt
    exact ⟨rfl, ⟨k5, W5, q1, (H3.out.2.1.new hg4).trans q2 hbl, q3, q4⟩, ⟨q2.other hG4.head hf2.1 hf2.2⟩, q2.other hP4 hf.1 hf.2⟩
  go_wp2_with fail
  go_region_held3 (fun w' => w'.cell? ⟨r, 0, none⟩ = some (.pointer (some ⟨b, 0, none⟩)) ∧ w'.cell? ⟨p, 0, none⟩ = some (.int .i64 (sc : Int))) (first | assumption | go_keep) (first
    | (go_at_call 117; refine (HY.out _ (grown_drew _ _)).mono ?_; rintro e w5 ⟨rfl, hq⟩; have H5 := hide hq; clear hq; have hS5 : w5.cell? ⟨r, 0, none⟩ = some (.pointer (some ⟨b, 0, none⟩)) ∧ w5.cell? ⟨p, 0, none⟩ = some (.int .i64 (sc : Int)) := ⟨H5.out.2.1.c0, cell_row H5.out.2.2 0⟩))
  rename_i hHeld
  clear hHeld hS5 hS3 c1 c2 HY
  go_wp2
  go_ret
  obtain ⟨k5, W5, q1, q2, q3, q4⟩ := H5.out.1
  exact ⟨rfl, k5, W5, q1, DvM.pre G1.out q2, q3, q4⟩
end
end Go.Proofs.YtonokaelbpfjnabGreatDoor
/- A region's write: one sector of it, whole or in part. -/
namespace Go.Proofs.YtonokaelbpfjnabGreatDoor
open Go.RowKit Ap
attribute [local go_sem ↓] Go.wp_at_zero Go.wp_at_succ

/-- All that a write looks at. -/
structure WrS (w0 w : World) (n size b : Nat) (s : Dv) (k : Dk) (D : List Nat) (W : List Wt) (r F C br bb : Nat) (a : Addr) (cap : Nat) (xs : List Nat) : Prop where
  dev : Dev w0 w n size b s k D W
  rg : RgAt w r b F C
  hbr : w.heap[br]? = some (.cells #[.pointer (some ⟨r, 0, none⟩)] 65 (0, 0))
  hbb : w.heap[bb]? = some (.cells #[.slice (some a) xs.length cap] 39 (0, 0))
  at_ : At w (some a) xs
  cap : xs.length ≤ cap
  off : ¬ k.own a.block
  ob : a.block ≠ b
section
variable {w0 w w' : World} {n size b r F C br bb cap : Nat} {s s' : Dv} {k k' : Dk} {D : List Nat} {W W' : List Wt} {a : Addr} {xs : List Nat}
theorem WrS.then (h : WrS w0 w n size b s k D W r F C br bb a cap xs) (hg : w.grownBy w' none) : WrS w0 w' n size b s k D W r F C br bb a cap xs :=
  ⟨h.dev.then hg, h.rg.grown hg, (hg.block _ (row_lt h.hbr) (by simp)).trans h.hbr, (hg.block _ (row_lt h.hbb) (by simp)).trans h.hbb, h.at_.grown hg, h.cap, h.off, h.ob⟩
theorem WrS.goes {D' : List Nat} (h : WrS w0 w n size b s k D W r F C br bb a cap xs) (hd : Dev w0 w' n size b s' k' D' W') (hm : DvM w w' b k k' W W') (ha : a.block < w.heap.size) : WrS w0 w' n size b s' k' D' W' r F C br bb a cap xs := by
  have h1 := h.dev.far h.rg.head (by decide) (by decide) (by decide) (by decide)
  have h2 := h.dev.far h.hbr (by decide) (by decide) (by decide) (by decide)
  have h3 := h.dev.far h.hbb (by decide) (by decide) (by decide) (by decide)
  refine ⟨hd, ⟨hm.other h.rg.head h1.1 h1.2⟩, hm.other h.hbr h2.1 h2.2, hm.other h.hbb h3.1 h3.2, at_off h.at_ hm.kept (fun a' e _ hs => by cases e; exact hs.elim h.off h.ob), h.cap, ?_, h.ob⟩
  intro e
  rcases hm.own _ e with e | e
  · exact h.off e
  · omega
set_option maxRecDepth 20000 in
set_option maxHeartbeats 4000000 in
theorem wr1_full (h : WrS w0 w n size b s k D W r F C br bb a cap xs) (hW : W.length ≤ 900000) (hc : s.cnt < 100000) (sc d : Nat) (hsc : sc < n) (hd : d + size ≤ xs.length) (hL : xs.length ≤ 268435456) :
    Calls Tryz.prog 116 #[.agg #[.int .i64 (sc : Int), .int .i64 0, .int .i64 (size : Int), .int .i64 (d : Int)], .pointer (some ⟨bb, 0, none⟩), .pointer (some ⟨br, 0, none⟩)] w fun e w' => e = .returned (.int .i64 (s.code 0)) ∧ WroteP w0 w w' n size b s.next k D W (ifP s.goes (abs W ++ [(sc, (xs.drop d).take size)]) (abs W)) := by
  have s0 := h.dev.disk.disk.shape.s0
  have s1 := h.dev.disk.disk.shape.s1
  have g1 := World.grownBy_alloc w (.cells #[.int .i64 (sc : Int), .int .i64 0, .int .i64 (size : Int), .int .i64 (d : Int)] 176) none
  have H1 := hide (And.intro (h.then g1) (part_new w sc 0 size d))
  have G1 := hide g1
  have hsl := slice_lhA a xs.length cap d (d + size) (by omega) (by have := h.cap; omega)
  rw [show d + size - d = size by omega, show ((d + size : Nat) : Int) = (d : Int) + (size : Int) by omega] at hsl
  have x0 : (w.alloc (.cells #[.int .i64 (sc : Int), .int .i64 0, .int .i64 (size : Int), .int .i64 (d : Int)] 176)).cell? ⟨bb, 0, none⟩ = some (.slice (some a) xs.length cap) := cell_row (l := [_]) H1.out.1.hbb 0
  have x1 : (w.alloc (.cells #[.int .i64 (sc : Int), .int .i64 0, .int .i64 (size : Int), .int .i64 (d : Int)] 176)).cell? ⟨br, 0, none⟩ = some (.pointer (some ⟨r, 0, none⟩)) := cell_row (l := [_]) H1.out.1.hbr 0
  have x2 := H1.out.1.rg.c0
  have y1 : (w.alloc (.cells #[.int .i64 (sc : Int), .int .i64 0, .int .i64 (size : Int), .int .i64 (d : Int)] 176)).cell? ⟨w.heap.size, 1, none⟩ = some (.int .i64 0) := cell_row H1.out.2 1
  have y2 : (w.alloc (.cells #[.int .i64 (sc : Int), .int .i64 0, .int .i64 (size : Int), .int .i64 (d : Int)] 176)).cell? ⟨w.heap.size, 2, none⟩ = some (.int .i64 (size : Int)) := cell_row H1.out.2 2
  have y3 : (w.alloc (.cells #[.int .i64 (sc : Int), .int .i64 0, .int .i64 (size : Int), .int .i64 (d : Int)] 176)).cell? ⟨w.heap.size, 3, none⟩ = some (.int .i64 (d : Int)) := cell_row H1.out.2 3
  have HS := hide (dsize_any H1.out.1.dev)
  clear h g1
  generalize hL2 : xs.length = L at *
  have HL := hide hL2
  clear hL2
  go_enter Tryz.func116, Tryz.ntmps116
  go_wp2_with fail
  refine HS.out.mono ?_
  rintro e w' ⟨rfl, rfl⟩
  generalize w.alloc (.cells #[.int .i64 (sc : Int), .int .i64 0, .int .i64 (size : Int), .int .i64 (d : Int)] 176) = w1 at *
  generalize hp : w.heap.size = p at *
  have HP := hide hp
  clear hp
  have y0 : w1.cell? ⟨p, 0, none⟩ = some (.int .i64 (sc : Int)) := cell_row H1.out.2 0
  have hS0 := And.intro x1 (And.intro x2 y0)
  have HX : Hid (∀ w2 : World, w1.grownBy w2 none → Calls Tryz.prog 117 #[.pointer (some ⟨b, 0, none⟩), .int .i64 (sc : Int), .slice (some (a.add d)) size (cap - d)] w2 fun e w' => e = .returned (.int .i64 (s.code 0)) ∧
      (WroteP w0 w1 w' n size b s.next k D W (ifP s.goes (abs W ++ [(sc, (xs.drop d).take size)]) (abs W)) ∧ RgAt w' r b F C ∧ w'.heap[p]? = some (.cells (pcells sc 0 size d).toArray 176 (0, 0)) ∧ w'.heap[br]? = some (.cells #[.pointer (some ⟨r, 0, none⟩)] 65 (0, 0)))) := by
    intro w2 hg2
    have hR := H1.out.1.then hg2
    have hP2 := (hg2.block _ (row_lt H1.out.2) (by simp)).trans H1.out.2
    refine (dwrite_ok hR.dev hW hc sc hsc (some (a.add d)) (cap - d) _ ((at_from hR.at_ d).take size) (by have := HL.out; simp; omega)).mono ?_
    rintro e w' ⟨rfl, k5, W5, q1, q2, q3, q4⟩
    have hf := hR.dev.far hP2 (by decide) (by decide) (by decide) (by decide)
    have hf2 := hR.dev.far hR.rg.head (by decide) (by decide) (by decide) (by decide)
    have hf3 := hR.dev.far hR.hbr (by decide) (by decide) (by decide) (by decide)
    exact ⟨rfl, ⟨k5, W5, q1, DvM.pre hg2 q2, q3, q4⟩, ⟨q2.other hR.rg.head hf2.1 hf2.2⟩, q2.other hP2 hf.1 hf.2, q2.other hR.hbr hf3.1 hf3.2⟩
  clear x0 y1 y2 y3
  go_wp2_with fail
  go_region_held3 (fun w' => w'.cell? ⟨br, 0, none⟩ = some (.pointer (some ⟨r, 0, none⟩)) ∧ w'.cell? ⟨r, 0, none⟩ = some (.pointer (some ⟨b, 0, none⟩)) ∧ w'.cell? ⟨p, 0, none⟩ = some (.int .i64 (sc : Int))) (first | assumption | go_keep) (first
    | (go_at_call 117; refine (HX.out _ (grown_drew _ _)).mono ?_; rintro e w2 ⟨rfl, hq⟩; have H2 := hide hq; clear hq; have hS2 : w2.cell? ⟨br, 0, none⟩ = some (.pointer (some ⟨r, 0, none⟩)) ∧ w2.cell? ⟨r, 0, none⟩ = some (.pointer (some ⟨b, 0, none⟩)) ∧ w2.cell? ⟨p, 0, none⟩ = some (.int .i64 (sc : Int)) := ⟨cell_row (l := [_]) H2.out.2.2.2 0, H2.out.2.1.c0, cell_row H2.out.2.2.1 0⟩))
  rename_i hHeld
  clear hHeld hS2 hS0 x1 x2 y0 HX
  go_wp2
  go_ret
  obtain ⟨k5, W5, q1, q2, q3, q4⟩ := H2.out.1
  exact ⟨rfl, k5, W5, q1, DvM.pre G1.out q2, q3, q4⟩
set_option maxRecDepth 20000 in
set_option maxHeartbeats 4000000 in
theorem wr1_part (h : WrS w0 w n size b s k D W r F C br bb a cap xs) (hW : W.length ≤ 900000) (hc : s.cnt + 1 < 100000) (sc fr te d l : Nat) (hsc : sc < n) (htl : te = fr + l) (hte : te ≤ size) (hl0 : 0 < l) (hl : l < size) (hd : d + l ≤ xs.length) (hL : xs.length ≤ 268435456)
    (c : Int) (s2 : Dv) (P : List Pr) (hout : (s.goes = false ∧ c = 60 ∧ s2 = s.next ∧ P = abs W) ∨ (s.goes = true ∧ c = s.next.code 0 ∧ s2 = s.next.next ∧ P = ifP s.next.goes (abs W ++ [(sc, splice (found size D W sc) fr ((xs.drop d).take l))]) (abs W))) :
    Calls Tryz.prog 116 #[.agg #[.int .i64 (sc : Int), .int .i64 (fr : Int), .int .i64 (te : Int), .int .i64 (d : Int)], .pointer (some ⟨bb, 0, none⟩), .pointer (some ⟨br, 0, none⟩)] w fun e w' => e = .returned (.int .i64 c) ∧ WroteP w0 w w' n size b s2 k D W P := by
  have s0 := h.dev.disk.disk.shape.s0
  have s1 := h.dev.disk.disk.shape.s1
  have g1 := World.grownBy_alloc w (.cells #[.int .i64 (sc : Int), .int .i64 (fr : Int), .int .i64 (te : Int), .int .i64 (d : Int)] 176) none
  have H1 := hide (And.intro (h.then g1) (part_new w sc fr te d))
  have G1 := hide g1
  have hsl := slice_lhA a xs.length cap d (d + l) (by omega) (by have := h.cap; omega)
  rw [show d + l - d = l by omega, show ((d + l : Nat) : Int) = (d : Int) + (te : Int) - (fr : Int) by omega] at hsl
  have x0 : (w.alloc (.cells #[.int .i64 (sc : Int), .int .i64 (fr : Int), .int .i64 (te : Int), .int .i64 (d : Int)] 176)).cell? ⟨bb, 0, none⟩ = some (.slice (some a) xs.length cap) := cell_row (l := [_]) H1.out.1.hbb 0
  have x1 : (w.alloc (.cells #[.int .i64 (sc : Int), .int .i64 (fr : Int), .int .i64 (te : Int), .int .i64 (d : Int)] 176)).cell? ⟨br, 0, none⟩ = some (.pointer (some ⟨r, 0, none⟩)) := cell_row (l := [_]) H1.out.1.hbr 0
  have x2 := H1.out.1.rg.c0
  have y0 : (w.alloc (.cells #[.int .i64 (sc : Int), .int .i64 (fr : Int), .int .i64 (te : Int), .int .i64 (d : Int)] 176)).cell? ⟨w.heap.size, 0, none⟩ = some (.int .i64 (sc : Int)) := cell_row H1.out.2 0
  have y1 : (w.alloc (.cells #[.int .i64 (sc : Int), .int .i64 (fr : Int), .int .i64 (te : Int), .int .i64 (d : Int)] 176)).cell? ⟨w.heap.size, 1, none⟩ = some (.int .i64 (fr : Int)) := cell_row H1.out.2 1
  have y2 : (w.alloc (.cells #[.int .i64 (sc : Int), .int .i64 (fr : Int), .int .i64 (te : Int), .int .i64 (d : Int)] 176)).cell? ⟨w.heap.size, 2, none⟩ = some (.int .i64 (te : Int)) := cell_row H1.out.2 2
  have y3 : (w.alloc (.cells #[.int .i64 (sc : Int), .int .i64 (fr : Int), .int .i64 (te : Int), .int .i64 (d : Int)] 176)).cell? ⟨w.heap.size, 3, none⟩ = some (.int .i64 (d : Int)) := cell_row H1.out.2 3
  have HS := hide (dsize_any H1.out.1.dev)
  have HO := hide hout
  have HT := hide htl
  have hft : fr < te := by omega
  have hne : (l : Int) ≠ (size : Int) := by omega
  have hle : (fr : Int) ≤ (d : Int) + (te : Int) := by omega
  clear h g1 hout htl
  generalize hL2 : xs.length = L at *
  have HL := hide hL2
  clear hL2
  go_enter Tryz.func116, Tryz.ntmps116
  go_wp2_with fail
  refine HS.out.mono ?_
  rintro e w' ⟨rfl, rfl⟩
  generalize w.alloc (.cells #[.int .i64 (sc : Int), .int .i64 (fr : Int), .int .i64 (te : Int), .int .i64 (d : Int)] 176) = w1 at *
  generalize hp : w.heap.size = p at *
  have HP := hide hp
  clear hp
  have hS0 := And.intro x1 (And.intro x2 (And.intro y0 (And.intro y1 (And.intro y2 y3))))
  have HX : Hid (∀ w2 : World, w1.grownBy w2 none → Calls Tryz.prog 118 #[.pointer (some ⟨r, 0, none⟩), .agg #[.int .i64 (sc : Int), .int .i64 (fr : Int), .int .i64 (te : Int), .int .i64 (d : Int)], .slice (some (a.add d)) l (cap - d)] w2 fun e w' => e = .returned (.int .i64 c) ∧
      (WroteP w0 w1 w' n size b s2 k D W P ∧ RgAt w' r b F C ∧ w'.heap[p]? = some (.cells (pcells sc fr te d).toArray 176 (0, 0)) ∧ w'.heap[br]? = some (.cells #[.pointer (some ⟨r, 0, none⟩)] 65 (0, 0)))) := by
    intro w2 hg2
    have hR := H1.out.1.then hg2
    have hP2 := (hg2.block _ (row_lt H1.out.2) (by simp)).trans H1.out.2
    have hf := hR.dev.far hP2 (by decide) (by decide) (by decide) (by decide)
    have hf2 := hR.dev.far hR.rg.head (by decide) (by decide) (by decide) (by decide)
    have hf3 := hR.dev.far hR.hbr (by decide) (by decide) (by decide) (by decide)
    rcases HO.out with ⟨h1, rfl, rfl, rfl⟩ | ⟨h1, rfl, rfl, rfl⟩
    · refine (turn_no hR.dev hR.rg (by omega) h1 sc fr te d _).mono ?_
      rintro e w' ⟨rfl, k5, W5, q1, q2, q3, q4⟩
      exact ⟨rfl, ⟨k5, W5, q1, DvM.pre hg2 q2, q3, q4⟩, ⟨q2.other hR.rg.head hf2.1 hf2.2⟩, q2.other hP2 hf.1 hf.2, q2.other hR.hbr hf3.1 hf3.2⟩
    · have htl : te - fr = l := by have := HT.out; omega
      have hh := turn_go hR.dev hR.rg hW hc h1 sc fr te d hsc hft hte (some (a.add d)) (cap - d) ((xs.drop d).take l) ((at_from hR.at_ d).take l) (by have := HL.out; simp; omega) (fun a' e => by cases e; rw [addr_add_block]; exact ⟨hR.off, hR.ob⟩)
      rw [htl] at hh
      refine hh.mono ?_
      rintro e w' ⟨rfl, k5, W5, q1, q2, q3, q4⟩
      exact ⟨rfl, ⟨k5, W5, q1, DvM.pre hg2 q2, q3, q4⟩, ⟨q2.other hR.rg.head hf2.1 hf2.2⟩, q2.other hP2 hf.1 hf.2, q2.other hR.hbr hf3.1 hf3.2⟩
  clear x0
  go_wp2_with fail
  go_region_held3 (fun w' => w'.cell? ⟨br, 0, none⟩ = some (.pointer (some ⟨r, 0, none⟩)) ∧ w'.cell? ⟨r, 0, none⟩ = some (.pointer (some ⟨b, 0, none⟩)) ∧ w'.cell? ⟨p, 0, none⟩ = some (.int .i64 (sc : Int)) ∧ w'.cell? ⟨p, 1, none⟩ = some (.int .i64 (fr : Int)) ∧ w'.cell? ⟨p, 2, none⟩ = some (.int .i64 (te : Int)) ∧ w'.cell? ⟨p, 3, none⟩ = some (.int .i64 (d : Int))) (first | assumption | go_keep) (first
    | (go_at_call 118; refine (HX.out _ (grown_drew _ _)).mono ?_; rintro e w2 ⟨rfl, hq⟩; have H2 := hide hq; clear hq; have hS2 : w2.cell? ⟨br, 0, none⟩ = some (.pointer (some ⟨r, 0, none⟩)) ∧ w2.cell? ⟨r, 0, none⟩ = some (.pointer (some ⟨b, 0, none⟩)) ∧ w2.cell? ⟨p, 0, none⟩ = some (.int .i64 (sc : Int)) ∧ w2.cell? ⟨p, 1, none⟩ = some (.int .i64 (fr : Int)) ∧ w2.cell? ⟨p, 2, none⟩ = some (.int .i64 (te : Int)) ∧ w2.cell? ⟨p, 3, none⟩ = some (.int .i64 (d : Int)) := ⟨cell_row (l := [_]) H2.out.2.2.2 0, H2.out.2.1.c0, cell_row H2.out.2.2.1 0, cell_row H2.out.2.2.1 1, cell_row H2.out.2.2.1 2, cell_row H2.out.2.2.1 3⟩))
  rename_i hHeld
  clear hHeld hS2 hS0 x1 x2 y0 y1 y2 y3 HX
  go_wp2
  go_ret
  obtain ⟨k5, W5, q1, q2, q3, q4⟩ := H2.out.1
  exact ⟨rfl, k5, W5, q1, DvM.pre G1.out q2, q3, q4⟩
end
end Go.Proofs.YtonokaelbpfjnabGreatDoor
