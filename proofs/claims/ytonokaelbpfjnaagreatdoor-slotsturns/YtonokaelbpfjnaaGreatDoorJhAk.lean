/- Texts joined: Rg3, Rg4, Rg5. -/
import Derived.Test.YtonokaelbpfjnaaGreatDoorJhAj
/- A region's read. -/
namespace Go.Proofs.YtonokaelbpfjnaaGreatDoor
open Go.RowKit Ap
attribute [local go_sem ↓] Go.wp_at_zero Go.wp_at_succ

theorem slice_from (g len cap lo : Nat) (h : lo < len) (h2 : len ≤ cap) (w : World) : (Instr.slice 36 (.slice (some ⟨g, 0, none⟩) len cap) (some (.int .i64 (lo : Int))) none none).run Tryz.prog w = .ok (.slice (some ⟨g, lo, none⟩) (len - lo) (cap - lo)) w := by
  simp [Instr.slice, run_underlying Tryz.underlying36, Instr.sliceBounds, Instr.sliceBound, asIntOf, Addr.add, Nat.le_of_lt h]
  rw [if_neg (by omega)]
  split
  · rename_i e; rw [e]
  · rfl
section
variable {w0 w w' : World} {n size b : Nat} {s s' : Dv} {k : Dk} {D : List Nat} {W : List Wt}
/-- Some bytes of another block stay. -/
theorem DvM.other {k' : Dk} {W' : List Wt} (h : DvM w w' b k k' W W') {i : Nat} {o : Obj} (ho : w.heap[i]? = some o) (hk : ¬ k.own i) (hb : i ≠ b) : w'.heap[i]? = some o := h.kept.at ho (fun e => e.elim hk hb)
theorem dread_go (h : Dev w0 w n size b s k D W) (hc : s.cnt < 100000) (hgo : s.goes = true) (i : Nat) (hi : i < n) :
    Calls Tryz.prog 46 #[.pointer (some ⟨b, 0, none⟩), .int .i64 (i : Int)] w fun e w' => ∃ g : Nat, e = .returned (.tuple #[.slice (some ⟨g, 0, none⟩) size size, .int .i64 0]) ∧ w.heap.size ≤ g ∧ w'.heap[g]? = some (.cells (bv (found size D W i)).toArray 5 (0, 0)) ∧ Dev w0 w' n size b s.next k D W ∧ DvM w w' b k k W W := by
  refine (dread_any h hc (i : Int)).mono ?_
  rintro e w' ⟨v, rfl, h1, h2, h3⟩
  have hi2 : (0 : Int) ≤ (i : Int) ∧ (i : Int) < (n : Int) := by omega
  have hl := found_length h.disk.disk.len h.disk.disk.fitsW i hi
  have s0 := h.disk.disk.shape.s0
  rw [if_pos hgo, rbytes, if_pos hi2, Int.toNat_natCast] at h1
  rcases h1 with ⟨_, h1⟩ | ⟨g, rfl, g1, g2, g3⟩
  · rw [h1] at hl; simp at hl; omega
  · exact ⟨g, by rw [Dv.code, if_pos hgo, rcode, if_pos hi2], g1, g2, h2, h3⟩
theorem dread_no (h : Dev w0 w n size b s k D W) (hc : s.cnt < 100000) (hgo : s.goes = false) (i : Int) :
    Calls Tryz.prog 46 #[.pointer (some ⟨b, 0, none⟩), .int .i64 i] w fun e w' => e = .returned (.tuple #[.slice none 0 0, .int .i64 60]) ∧ Dev w0 w' n size b s.next k D W ∧ DvM w w' b k k W W := by
  refine (dread_any h hc i).mono ?_
  rintro e w' ⟨v, rfl, h1, h2, h3⟩
  have s0 := h.disk.disk.shape.s0
  rw [hgo] at h1
  rcases h1 with ⟨rfl, _⟩ | ⟨g, rfl, g1, g2, g3⟩
  · exact ⟨by rw [Dv.code, hgo]; rfl, h2, h3⟩
  · simp at g3; omega
/-- All that a read looks at. -/
structure RdS (w0 w : World) (n size b : Nat) (s : Dv) (k : Dk) (D : List Nat) (W : List Wt) (r F C br bo g m : Nat) (acc : List Nat) : Prop where
  dev : Dev w0 w n size b s k D W
  rg : RgAt w r b F C
  hbr : w.heap[br]? = some (.cells #[.pointer (some ⟨r, 0, none⟩)] 77 (0, 0))
  hbo : w.heap[bo]? = some (.cells #[.slice (some ⟨g, 0, none⟩) m m] 36 (0, 0))
  hg : w.heap[g]? = some (.cells (bv acc).toArray 5 (0, 0))
  len : acc.length = m
  off : ¬ foot k W g
  low : w0.heap.size ≤ g
variable {r F C br bo g m : Nat} {acc : List Nat}
theorem Dev.far (h : Dev w0 w n size b s k D W) {i : Nat} {c : Array Value} {t : TypeId} {fr : Nat × Nat} (ho : w.heap[i]? = some (.cells c t fr)) (h1 : t ≠ 141) (h2 : t ≠ 5) (h3 : t ≠ 176) (h4 : t ≠ 110) : ¬ k.own i ∧ i ≠ b :=
  ⟨h.disk.disk.other_off ho h1 h2 h3, fun e => by have := h.dev.head; rw [← e, ho] at this; simp at this; exact h4 this.2.1⟩
theorem RdS.goes (h : RdS w0 w n size b s k D W r F C br bo g m acc) (hd : Dev w0 w' n size b s' k D W) (hm : DvM w w' b k k W W) : RdS w0 w' n size b s' k D W r F C br bo g m acc := by
  have h1 := h.dev.far h.rg.head (by decide) (by decide) (by decide) (by decide)
  have h2 := h.dev.far h.hbr (by decide) (by decide) (by decide) (by decide)
  have h3 := h.dev.far h.hbo (by decide) (by decide) (by decide) (by decide)
  refine ⟨hd, ⟨hm.other h.rg.head h1.1 h1.2⟩, hm.other h.hbr h2.1 h2.2, hm.other h.hbo h3.1 h3.2, hm.other h.hg (fun e => h.off (.inl e)) ?_, h.len, h.off, h.low⟩
  rintro rfl
  have := h.dev.dev.head
  rw [h.hg] at this
  simp at this
theorem RdS.then (h : RdS w0 w n size b s k D W r F C br bo g m acc) (hg : w.grownBy w' none) : RdS w0 w' n size b s k D W r F C br bo g m acc :=
  ⟨h.dev.then hg, h.rg.grown hg, (hg.block _ (row_lt h.hbr) (by simp)).trans h.hbr, (hg.block _ (row_lt h.hbo) (by simp)).trans h.hbo, (hg.block _ (row_lt h.hg) (by simp)).trans h.hg, h.len, h.off, h.low⟩
theorem RdS.gb (h : RdS w0 w n size b s k D W r F C br bo g m acc) : g ≠ b := by
  rintro rfl
  have := h.dev.dev.head
  rw [h.hg] at this
  simp at this
/-- The bytes' block is written. -/
theorem RdS.put {acc' : List Nat} (h : RdS w0 w n size b s k D W r F C br bo g m acc) (hg : w.grownBy w' (some g)) (ha : w'.heap[g]? = some (.cells (bv acc').toArray 5 (0, 0))) (hl : acc'.length = m) : RdS w0 w' n size b s k D W r F C br bo g m acc' := by
  have hk : ∀ i o, w.heap[i]? = some o → i ≠ g → w'.heap[i]? = some o := fun i o ho hi => (hg.block i (row_lt ho) (fun e => hi (Option.some.inj e))).trans ho
  refine ⟨⟨h.dev.disk.row hg (fun i hi e => h.off (e ▸ hi)) h.low, ⟨hk _ _ h.dev.dev.head (fun e => h.gb e.symm), h.dev.dev.ok⟩, h.dev.low⟩, ⟨hk _ _ h.rg.head ?_⟩, hk _ _ h.hbr ?_, hk _ _ h.hbo ?_, ha, hl, h.off, h.low⟩
  · rintro rfl; have := h.rg.head; rw [h.hg] at this; simp at this
  · rintro rfl; have := h.hbr; rw [h.hg] at this; simp at this
  · rintro rfl; have := h.hbo; rw [h.hg] at this; simp at this
end
end Go.Proofs.YtonokaelbpfjnaaGreatDoor
/- A region's read: one sector of it. -/
namespace Go.Proofs.YtonokaelbpfjnaaGreatDoor
open Go.RowKit Ap
attribute [local go_sem ↓] Go.wp_at_zero Go.wp_at_succ

def pcells (sc fr te d : Int) : List Value := [.int .i64 sc, .int .i64 fr, .int .i64 te, .int .i64 d]
theorem part_new (w : World) (sc fr te d : Int) : (w.alloc (.cells #[.int .i64 sc, .int .i64 fr, .int .i64 te, .int .i64 d] 184)).heap[w.heap.size]? = some (.cells (pcells sc fr te d).toArray 184 (0, 0)) := heap_alloc_new w _
section
variable {w0 w w' : World} {n size b : Nat} {s s' : Dv} {k : Dk} {D : List Nat} {W : List Wt} {r F C br bo g m : Nat} {acc : List Nat}
set_option maxRecDepth 20000 in
set_option maxHeartbeats 4000000 in
theorem rd1_go (h : RdS w0 w n size b s k D W r F C br bo g m acc) (hc : s.cnt < 100000) (hgo : s.goes = true) (sc fr te d : Nat) (hsc : sc < n) (hft : fr < te) (hte : te ≤ size) (hd : d + (te - fr) ≤ m) :
    Calls Tryz.prog 140 #[.agg #[.int .i64 (sc : Int), .int .i64 (fr : Int), .int .i64 (te : Int), .int .i64 (d : Int)], .pointer (some ⟨br, 0, none⟩), .pointer (some ⟨bo, 0, none⟩)] w fun e w' => e = .returned (.int .i64 0) ∧ RdS w0 w' n size b s.next k D W r F C br bo g m (splice acc d (((found size D W sc).drop fr).take (te - fr))) ∧ Kept w w' (fun i => k.own i ∨ i = b ∨ i = g) := by
  have g1 := World.grownBy_alloc w (.cells #[.int .i64 (sc : Int), .int .i64 (fr : Int), .int .i64 (te : Int), .int .i64 (d : Int)] 184) none
  have H1 := hide (And.intro (h.then g1) (part_new w sc fr te d))
  have G1 := hide g1
  have hlen := hide (found_length h.dev.disk.disk.len h.dev.disk.disk.fitsW sc hsc)
  have hs1 := h.dev.disk.disk.shape.s1
  clear h g1
  go_enter Tryz.func140, Tryz.ntmps140
  go_wp2_with fail
  generalize w.alloc (.cells #[.int .i64 (sc : Int), .int .i64 (fr : Int), .int .i64 (te : Int), .int .i64 (d : Int)] 184) = w1 at *
  generalize hp : w.heap.size = p at *
  have HP := hide hp
  clear hp
  have a0 : w1.cell? ⟨br, 0, none⟩ = some (.pointer (some ⟨r, 0, none⟩)) := cell_row (l := [_]) H1.out.1.hbr 0
  have a1 := H1.out.1.rg.c0
  have a2 : w1.cell? ⟨p, 0, none⟩ = some (.int .i64 (sc : Int)) := cell_row H1.out.2 0
  have hS0 := And.intro a0 (And.intro a1 a2)
  have HX : Hid (∀ w2 : World, w1.grownBy w2 none → Calls Tryz.prog 46 #[.pointer (some ⟨b, 0, none⟩), .int .i64 (sc : Int)] w2 fun e w' => ∃ g2 : Nat, e = .returned (.tuple #[.slice (some ⟨g2, 0, none⟩) size size, .int .i64 0]) ∧
      (RdS w0 w' n size b s.next k D W r F C br bo g m acc ∧ w'.heap[p]? = some (.cells (pcells sc fr te d).toArray 184 (0, 0)) ∧ w'.heap[g2]? = some (.cells (bv (found size D W sc)).toArray 5 (0, 0)) ∧ g2 ≠ g ∧ Kept w1 w' (fun i => k.own i ∨ i = b))) := by
    intro w2 hg2
    have hR := H1.out.1.then hg2
    have hP2 := (hg2.block _ (row_lt H1.out.2) (by simp)).trans H1.out.2
    refine (dread_go hR.dev hc hgo sc hsc).mono ?_
    rintro e w' ⟨g2, rfl, q1, q2, q3, q4⟩
    have hf := hR.dev.far hP2 (by decide) (by decide) (by decide) (by decide)
    exact ⟨g2, rfl, hR.goes q3 q4, q4.other hP2 hf.1 hf.2, q2, (fun e => by have := row_lt hR.hg; omega), (Kept.new hg2 _).trans q4.kept (fun _ _ e => e)⟩
  go_region_held3 (fun w' => w'.cell? ⟨br, 0, none⟩ = some (.pointer (some ⟨r, 0, none⟩)) ∧ w'.cell? ⟨r, 0, none⟩ = some (.pointer (some ⟨b, 0, none⟩)) ∧ w'.cell? ⟨p, 0, none⟩ = some (.int .i64 (sc : Int))) (first | assumption | go_keep) (first
    | (go_at_call 46; refine (HX.out _ (grown_drew _ _)).mono ?_; rintro e w2 ⟨g2, rfl, hq⟩; have H2 := hide hq; clear hq; have hS2 : w2.cell? ⟨br, 0, none⟩ = some (.pointer (some ⟨r, 0, none⟩)) ∧ w2.cell? ⟨r, 0, none⟩ = some (.pointer (some ⟨b, 0, none⟩)) ∧ w2.cell? ⟨p, 0, none⟩ = some (.int .i64 (sc : Int)) := ⟨cell_row (l := [_]) H2.out.1.hbr 0, H2.out.1.rg.c0, cell_row H2.out.2.1 0⟩))
  rename_i hHeld
  clear hHeld hS2 hS0 a0 a1 a2 HX
  have b0 : w2.cell? ⟨bo, 0, none⟩ = some (.slice (some ⟨g, 0, none⟩) m m) := cell_row (l := [_]) H2.out.1.hbo 0
  have b1 : w2.cell? ⟨p, 1, none⟩ = some (.int .i64 (fr : Int)) := cell_row H2.out.2.1 1
  have b2 : w2.cell? ⟨p, 2, none⟩ = some (.int .i64 (te : Int)) := cell_row H2.out.2.1 2
  have b3 : w2.cell? ⟨p, 3, none⟩ = some (.int .i64 (d : Int)) := cell_row H2.out.2.1 3
  have hsl1 := slice_from g m m d (by omega) (Nat.le_refl _)
  have hsl2 := slice_lh g2 size size fr te hft hte
  obtain ⟨XV, hXV⟩ : ∃ XV, XV = bv (((found size D W sc).drop fr).take (te - fr)) := ⟨_, rfl⟩
  obtain ⟨AV, hAV⟩ : ∃ AV, AV = bv acc := ⟨_, rfl⟩
  have HCP : Hid (∀ w3 : World, w2.grownBy w3 none → w3.heap[g]? = some (.cells AV.toArray 5 (0, 0)) ∧ XV.length = Nat.min (te - fr) (m - d) ∧
      (0 < XV.length → ∃ ad, some (⟨g2, fr, none⟩ : Addr) = some ad ∧ ∀ j v, XV[j]? = some v → w3.cell? (ad.add j) = some v) ∧ d + XV.length ≤ AV.length ∧ (∀ v ∈ XV, v.oneCell' = true)) := by
    intro w3 hg3
    have hl := hlen.out
    have hlx : XV.length = te - fr := by rw [hXV, bv_length]; simp; omega
    have hla : AV.length = m := by rw [hAV, bv_length]; exact H2.out.1.len
    refine ⟨by rw [hAV]; exact (hg3.block _ (row_lt H2.out.1.hg) (by simp)).trans H2.out.1.hg, by rw [hlx]; exact (Nat.min_eq_left (by omega)).symm, fun _ => ⟨_, rfl, ?_⟩, by omega, ?_⟩
    · intro i v hv
      rw [hXV, bv, List.getElem?_map] at hv
      cases hj : (((found size D W sc).drop fr).take (te - fr))[i]? with
      | none => simp [hj] at hv
      | some y =>
        simp [hj] at hv
        obtain ⟨a', ea', hc'⟩ := ((at_drop ((hg3.block _ (row_lt H2.out.2.2.1) (by simp)).trans H2.out.2.2.1) fr).take (te - fr)) i y hj
        cases ea'
        rw [← hv]; exact hc'
    · intro v hv; rw [hXV, bv, List.mem_map] at hv; obtain ⟨y, _, rfl⟩ := hv; rfl
  have HTT : Hid (∀ w5 : World, w2.grownBy w5 (some g) → w5.cell? ⟨bo, 0, none⟩ = some (.slice (some ⟨g, 0, none⟩) m m) ∧ w5.cell? ⟨p, 1, none⟩ = some (.int .i64 (fr : Int)) ∧ w5.cell? ⟨p, 2, none⟩ = some (.int .i64 (te : Int)) ∧ w5.cell? ⟨p, 3, none⟩ = some (.int .i64 (d : Int))) := by
    intro w5 hg5
    have n1 : some bo ≠ some g := fun e => by have e := Option.some.inj e; have := H2.out.1.hbo; rw [e, H2.out.1.hg] at this; simp at this
    have n2 : some p ≠ some g := fun e => by have e := Option.some.inj e; have := H2.out.2.1; rw [e, H2.out.1.hg] at this; simp at this
    exact ⟨hg5.cell b0 n1, hg5.cell b1 n2, hg5.cell b2 n2, hg5.cell b3 n2⟩
  have HEQ := hide (And.intro hXV hAV)
  clear hXV hAV
  have hT0 := And.intro b0 (And.intro b1 (And.intro b2 b3))
  go_wp2_with fail
  go_region_held3 (fun w' => w'.cell? ⟨bo, 0, none⟩ = some (.slice (some ⟨g, 0, none⟩) m m) ∧ w'.cell? ⟨p, 1, none⟩ = some (.int .i64 (fr : Int)) ∧ w'.cell? ⟨p, 2, none⟩ = some (.int .i64 (te : Int)) ∧ w'.cell? ⟨p, 3, none⟩ = some (.int .i64 (d : Int))) (first | assumption | go_keep) (first
    | (refine step_copy_grown rfl (.tmp 23) (.tmp 29) 36 36 rfl 5 Tryz.underlying36 Tryz.size5 (some ⟨g, d, none⟩) (some ⟨g2, fr, none⟩) (m - d) (m - d) (te - fr) (size - fr) (by rfl) (by rfl) g d AV 5 (HCP.out _ (grown_drew _ _)).1 XV (HCP.out _ (grown_drew _ _)).2.1 (fun hp => ⟨rfl, (HCP.out _ (grown_drew _ _)).2.2.1 hp⟩) (HCP.out _ (grown_drew _ _)).2.2.2.1 (HCP.out _ (grown_drew _ _)).2.2.2.2 ?_; intro w5 H5 hg5'; have hg5 := grown_trans (grown_none (grown_drew w2 none) (some g)) hg5'; clear hg5'; have hT5 := HTT.out w5 hg5))
  rename_i hHeld
  have H6 : Hid (RdS w0 w5 n size b s.next k D W r F C br bo g m (splice acc d (((found size D W sc).drop fr).take (te - fr))) ∧ Kept w w5 (fun i => k.own i ∨ i = b ∨ i = g)) := by
    obtain ⟨e1, e2⟩ := HEQ.out
    have hl := hlen.out
    refine ⟨H2.out.1.put hg5 (by rw [H5.out, e1, e2, bv_splice]) (by rw [length_splice _ _ _ (by rw [H2.out.1.len]; simp; omega)]; exact H2.out.1.len), ?_⟩
    exact ((Kept.new G1.out _).trans H2.out.2.2.2.2 (fun i _ e => e.imp id .inl)).trans (Kept.of hg5 (S := fun i => i = g) (fun _ e _ => (Option.some.inj e).symm)) (fun i _ e => .inr (.inr e))
  clear hHeld hT5 hT0 hg5 H5 b0 b1 b2 b3 HTT HCP HEQ hsl1 hsl2
  go_wp2
  go_ret
  exact ⟨rfl, H6.out⟩
set_option maxRecDepth 20000 in
set_option maxHeartbeats 4000000 in
theorem rd1_no (h : RdS w0 w n size b s k D W r F C br bo g m acc) (hc : s.cnt < 100000) (hgo : s.goes = false) (sc fr te d : Int) :
    Calls Tryz.prog 140 #[.agg #[.int .i64 sc, .int .i64 fr, .int .i64 te, .int .i64 d], .pointer (some ⟨br, 0, none⟩), .pointer (some ⟨bo, 0, none⟩)] w fun e w' => e = .returned (.int .i64 60) ∧ RdS w0 w' n size b s.next k D W r F C br bo g m acc ∧ Kept w w' (fun i => k.own i ∨ i = b) := by
  have g1 := World.grownBy_alloc w (.cells #[.int .i64 sc, .int .i64 fr, .int .i64 te, .int .i64 d] 184) none
  have H1 := hide (And.intro (h.then g1) (part_new w sc fr te d))
  have G1 := hide g1
  clear h g1
  go_enter Tryz.func140, Tryz.ntmps140
  go_wp2_with fail
  generalize w.alloc (.cells #[.int .i64 sc, .int .i64 fr, .int .i64 te, .int .i64 d] 184) = w1 at *
  generalize hp : w.heap.size = p at *
  have HP := hide hp
  clear hp
  have a0 : w1.cell? ⟨br, 0, none⟩ = some (.pointer (some ⟨r, 0, none⟩)) := cell_row (l := [_]) H1.out.1.hbr 0
  have a1 := H1.out.1.rg.c0
  have a2 : w1.cell? ⟨p, 0, none⟩ = some (.int .i64 sc) := cell_row H1.out.2 0
  have hS0 := And.intro a0 (And.intro a1 a2)
  have HX : Hid (∀ w2 : World, w1.grownBy w2 none → Calls Tryz.prog 46 #[.pointer (some ⟨b, 0, none⟩), .int .i64 sc] w2 fun e w' => e = .returned (.tuple #[.slice none 0 0, .int .i64 60]) ∧
      (RdS w0 w' n size b s.next k D W r F C br bo g m acc ∧ w'.heap[p]? = some (.cells (pcells sc fr te d).toArray 184 (0, 0)) ∧ Kept w1 w' (fun i => k.own i ∨ i = b))) := by
    intro w2 hg2
    have hR := H1.out.1.then hg2
    have hP2 := (hg2.block _ (row_lt H1.out.2) (by simp)).trans H1.out.2
    refine (dread_no hR.dev hc hgo sc).mono ?_
    rintro e w' ⟨rfl, q3, q4⟩
    have hf := hR.dev.far hP2 (by decide) (by decide) (by decide) (by decide)
    exact ⟨rfl, hR.goes q3 q4, q4.other hP2 hf.1 hf.2, (Kept.new hg2 _).trans q4.kept (fun _ _ e => e)⟩
  go_region_held3 (fun w' => w'.cell? ⟨br, 0, none⟩ = some (.pointer (some ⟨r, 0, none⟩)) ∧ w'.cell? ⟨r, 0, none⟩ = some (.pointer (some ⟨b, 0, none⟩)) ∧ w'.cell? ⟨p, 0, none⟩ = some (.int .i64 sc)) (first | assumption | go_keep) (first
    | (go_at_call 46; refine (HX.out _ (grown_drew _ _)).mono ?_; rintro e w2 ⟨rfl, hq⟩; have H2 := hide hq; clear hq; have hS2 : w2.cell? ⟨br, 0, none⟩ = some (.pointer (some ⟨r, 0, none⟩)) ∧ w2.cell? ⟨r, 0, none⟩ = some (.pointer (some ⟨b, 0, none⟩)) ∧ w2.cell? ⟨p, 0, none⟩ = some (.int .i64 sc) := ⟨cell_row (l := [_]) H2.out.1.hbr 0, H2.out.1.rg.c0, cell_row H2.out.2.1 0⟩))
  rename_i hHeld
  clear hHeld hS2 hS0 a0 a1 a2 HX
  go_wp2
  go_ret
  exact ⟨rfl, H2.out.1, (Kept.new G1.out _).trans H2.out.2.2 (fun _ _ e => e)⟩
end
end Go.Proofs.YtonokaelbpfjnaaGreatDoor
/- A region's read. -/
namespace Go.Proofs.YtonokaelbpfjnaaGreatDoor
open Go.RowKit Ap
attribute [local go_sem ↓] Go.wp_at_zero Go.wp_at_succ

section
variable {w0 w w' : World} {n size b r F C : Nat} {s s' : Dv} {k : Dk} {D : List Nat} {W : List Wt}
set_option maxRecDepth 20000 in
set_option maxHeartbeats 4000000 in
theorem gRead_any (h : Dev w0 w n size b s k D W) (hr : RgAt w r b F C) (hC : C ≤ 65536) (at_ m : Nat) (hfit : at_ + m ≤ C * size) (hm : m ≤ 268435456) (Post : Value → Int → World → Prop)
    (heach : ∀ w1 br bo g, w.grownBy w1 none → w.heap.size ≤ g → RdS w0 w1 n size b s k D W r F C br bo g m (zs m) →
      Calls Tryz.prog 139 #[.pointer (some ⟨r, 0, none⟩), .int .i64 (at_ : Int), .int .i64 (m : Int), .func (.func 140) #[] #[.pointer (some ⟨br, 0, none⟩), .pointer (some ⟨bo, 0, none⟩)]] w1 fun e w' => ∃ c : Int, e = .returned (.int .i64 c) ∧ (c = 0 ∧ w'.heap[bo]? = some (.cells #[.slice (some ⟨g, 0, none⟩) m m] 36 (0, 0)) ∧ Post (.slice (some ⟨g, 0, none⟩) m m) 0 w' ∨ c ≠ 0 ∧ Post (.slice none 0 0) c w')) :
    Calls Tryz.prog 115 #[.pointer (some ⟨r, 0, none⟩), .int .i64 (at_ : Int), .int .i64 (m : Int)] w fun e w' => ∃ v c, e = .returned (.tuple #[v, .int .i64 c]) ∧ Post v c w' := by
  have hB : C * size ≤ 65536 * 4096 := Nat.mul_le_mul hC h.disk.disk.shape.s1
  have e0 : mcode (C * size) at_ m = 0 := by unfold mcode; rw [if_pos (by omega)]
  have HM : Hid (∀ w1 : World, w.grownBy w1 none → Calls Tryz.prog 138 #[.pointer (some ⟨r, 0, none⟩), .int .i64 (at_ : Int), .int .i64 (m : Int)] w1 fun e w' => e = .returned (.int .i64 0) ∧ w1.grownBy w' none) := by
    intro w1 hg
    have := gmay_at (h.then hg) (hr.grown hg) hC at_ m (by omega)
    rw [e0] at this
    exact this.mono (by rintro e w' ⟨rfl, q, rfl⟩; exact ⟨rfl, grown_drewN _ _ _⟩)
  have HH := hide (And.intro h hr)
  have HE := hide heach
  have hmk := make_bytes m (by omega)
  have G1 := hide (World.grownBy_alloc w (.cells #[.pointer (some ⟨r, 0, none⟩)] 77) none)
  have N1 : Hid ((w.alloc (.cells #[.pointer (some ⟨r, 0, none⟩)] 77)).heap[w.heap.size]? = some (.cells #[.pointer (some ⟨r, 0, none⟩)] 77 (0, 0))) := heap_alloc_new w _
  have c0 : (w.alloc (.cells #[.pointer (some ⟨r, 0, none⟩)] 77)).cell? ⟨w.heap.size, 0, none⟩ = some (.pointer (some ⟨r, 0, none⟩)) := cell_row (l := [_]) N1.out 0
  clear h hr heach e0
  go_enter Tryz.func115, Tryz.ntmps115
  go_wp2_with fail
  generalize w.alloc (.cells #[.pointer (some ⟨r, 0, none⟩)] 77) = w1 at *
  generalize hbr : w.heap.size = br at *
  have HB := hide hbr
  clear hbr
  refine (HM.out _ G1.out).mono ?_
  rintro e w2 ⟨rfl, g2⟩
  have N2 := hide ((g2.block _ (row_lt N1.out) (by simp)).trans N1.out)
  have c2 : w2.cell? ⟨br, 0, none⟩ = some (.pointer (some ⟨r, 0, none⟩)) := cell_row (l := [_]) N2.out 0
  have G2 := hide (grown_trans G1.out g2)
  clear g2 c0 N1 G1 HM
  have g3 := World.grownBy_alloc w2 (.cells (bv (zs m)).toArray 5) none
  have g4 := World.grownBy_alloc (w2.alloc (.cells (bv (zs m)).toArray 5)) (.cells #[.slice (some ⟨w2.heap.size, 0, none⟩) m m] 36) none
  have z3 : (w2.alloc (.cells (bv (zs m)).toArray 5)).heap.size = w2.heap.size + 1 := Array.size_push ..
  have n3 : (w2.alloc (.cells (bv (zs m)).toArray 5)).heap[w2.heap.size]? = some (.cells (bv (zs m)).toArray 5 (0, 0)) := heap_alloc_new w2 _
  have n4 := heap_alloc_new (w2.alloc (.cells (bv (zs m)).toArray 5)) (.cells #[.slice (some ⟨w2.heap.size, 0, none⟩) m m] 36)
  rw [z3] at n4
  have c4 : ((w2.alloc (.cells (bv (zs m)).toArray 5)).alloc (.cells #[.slice (some ⟨w2.heap.size, 0, none⟩) m m] 36)).cell? ⟨br, 0, none⟩ = some (.pointer (some ⟨r, 0, none⟩)) := (grown_trans g3 g4).cell c2 (by simp)
  have HR : Hid (w.grownBy ((w2.alloc (.cells (bv (zs m)).toArray 5)).alloc (.cells #[.slice (some ⟨w2.heap.size, 0, none⟩) m m] 36)) none ∧ w.heap.size ≤ w2.heap.size ∧ RdS w0 ((w2.alloc (.cells (bv (zs m)).toArray 5)).alloc (.cells #[.slice (some ⟨w2.heap.size, 0, none⟩) m m] 36)) n size b s k D W r F C br (w2.heap.size + 1) w2.heap.size m (zs m)) := by
    have gg := grown_trans (grown_trans G2.out g3) g4
    refine ⟨gg, G2.out.size, ⟨HH.out.1.then gg, HH.out.2.grown gg, ((grown_trans g3 g4).block _ (row_lt N2.out) (by simp)).trans N2.out, n4, (g4.block _ (row_lt n3) (by simp)).trans n3, by simp [zs], ?_, ?_⟩⟩
    · intro hf
      have := HH.out.1.disk.disk.lt _ hf
      have := G2.out.size
      omega
    · have := HH.out.1.disk.grown.size
      have := G2.out.size
      omega
  clear g3 g4 z3 n3 n4 c2 N2
  go_wp2_with fail
  generalize (w2.alloc (.cells (bv (zs m)).toArray 5)).alloc (.cells #[.slice (some ⟨w2.heap.size, 0, none⟩) m m] 36) = w4 at *
  generalize w2.heap.size + 1 = bo at *
  generalize w2.heap.size = g at *
  refine (HE.out w4 br bo g HR.out.1 (by have := HR.out.2.1; have := HB.out; omega) HR.out.2.2).mono ?_
  rintro e w5 ⟨c, rfl, h5⟩
  have H5 := hide h5
  clear h5
  by_cases hc0 : c = 0
  · subst hc0
    have H6 := hide (H5.out.elim (fun h => h.2) (fun h => absurd rfl h.1))
    have c6 : w5.cell? ⟨bo, 0, none⟩ = some (.slice (some ⟨g, 0, none⟩) m m) := cell_row (l := [_]) H6.out.1 0
    go_wp2
    go_ret2
    exact ⟨_, _, rfl, H6.out.2⟩
  · have H6 := hide (H5.out.elim (fun h => absurd h.1 hc0) (fun h => h.2))
    go_wp2
    go_ret2
    exact ⟨_, _, rfl, H6.out⟩
/-- The bytes that a read tells. -/
def bytesAt (A : List Nat) (o m : Nat) : List Nat := (A.drop o).take m
theorem bytesAt_length {A : List Nat} {o m : Nat} (h : o + m ≤ A.length) : (bytesAt A o m).length = m := by simp [bytesAt]; omega
theorem bytesAt_get (A : List Nat) (o m i : Nat) : (bytesAt A o m)[i]? = if i < m then A[o + i]? else none := by simp [bytesAt, List.getElem?_take, List.getElem?_drop]
/-- The next piece. -/
theorem acc_next {size at_ m j F d te fr S : Nat} {A : List Nat} {N : Nat} (hN : PcN size at_ m j S d fr te) (hs : 0 < size) (hj : j < pcn size at_ m) (hA : A.length = N * size) (hfit : F * size + at_ + m ≤ N * size) :
    splice (splice (zs m) 0 ((bytesAt A (F * size + at_) m).take d)) d (((secOf size A (F + S)).drop fr).take (te - fr)) = splice (zs m) 0 ((bytesAt A (F * size + at_) m).take (min m ((at_ / size + (j + 1)) * size - at_))) := by
  obtain ⟨h1, h2, h3, h4⟩ := pc_facts hs hj
  have hlt : F + S < N := by
    apply Nat.lt_of_mul_lt_mul_right (a := size)
    rw [Nat.add_mul, ← hN.eS]
    omega
  have hsl := secOf_length hA hlt
  have hbl : (bytesAt A (F * size + at_) m).length = m := bytesAt_length (by omega)
  have hz : (zs m).length = m := by simp [zs]
  have e : (F + S) * size = F * size + S * size := Nat.add_mul _ _ _
  rw [← hN.nx]
  have k1 := hN.ed
  have k2 := hN.ef
  have k3 := hN.et
  have k4 := hN.f1
  have k5 := hN.t1
  rw [hN.eS] at k1 k2 k3 h3 h4
  have l1 : ((bytesAt A (F * size + at_) m).take d).length = d := by simp [hbl]; have := hN.d1; omega
  have l2 : (((secOf size A (F + S)).drop fr).take (te - fr)).length = te - fr := by simp [hsl]; omega
  have l3 : ((bytesAt A (F * size + at_) m).take (d + (te - fr))).length = d + (te - fr) := by simp [hbl]; omega
  have l4 : (splice (zs m) 0 ((bytesAt A (F * size + at_) m).take d)).length = m := by rw [length_splice _ _ _ (by have := hN.d1; omega), hz]
  apply List.ext_getElem?
  intro i
  rw [splice_get _ _ _ _ (by omega), splice_get _ _ _ _ (by have := hN.d1; omega), splice_get _ _ _ _ (by omega), l1, l2, l3, List.getElem?_take, List.getElem?_take, List.getElem?_take, List.getElem?_drop, secOf_get, bytesAt_get, e]
  generalize S * size = Q at *
  by_cases hx : d ≤ i ∧ i < d + (te - fr)
  · rw [if_pos hx, if_pos (by omega), if_pos (by omega), if_pos (by omega), if_pos (by omega)]
    rw [if_pos (by omega)]
    congr 1; omega
  · rw [if_neg hx]
    by_cases hy : i < d
    · rw [if_pos (by omega), if_pos (by omega), if_pos (by omega), if_pos (by omega)]
      simp
      intro hh; omega
    · rw [if_neg (by omega), if_neg (by omega)]
theorem Dv.goes_next_cnt {s : Dv} (h : s.goes = true) : s.next.cnt = s.cnt + 1 := by
  unfold Dv.goes at h
  unfold Dv.next
  cases h1 : s.off with
  | true => rw [h1] at h; simp at h
  | false =>
    rw [h1] at h
    simp at h
    simp [h]
/-- What a read leaves, and tells. -/
structure ReadP (w0 w w' : World) (n size b : Nat) (s : Dv) (k : Dk) (D : List Nat) (W : List Wt) (m M : Nat) (xs : List Nat) (v : Value) (c : Int) : Prop where
  code : c = (rgo M s).1
  dev : Dev w0 w' n size b (rgo M s).2 k D W
  kept : Kept w w' (fun i => k.own i ∨ i = b)
  ok : c = 0 → ∃ g, v = .slice (some ⟨g, 0, none⟩) m m ∧ w.heap.size ≤ g ∧ w'.heap[g]? = some (.cells (bv xs).toArray 5 (0, 0)) ∧ xs.length = m
  no : c ≠ 0 → v = .slice none 0 0
set_option maxHeartbeats 1000000 in
theorem gRead_at (h : Dev w0 w n size b s k D W) (hr : RgAt w r b F C) (hFC : F + C ≤ n) (at_ m : Nat) (hfit : at_ + m ≤ C * size) (hcnt : s.cnt + pcn size at_ m ≤ 100000) :
    Calls Tryz.prog 115 #[.pointer (some ⟨r, 0, none⟩), .int .i64 (at_ : Int), .int .i64 (m : Int)] w fun e w' => ∃ v c, e = .returned (.tuple #[v, .int .i64 c]) ∧ ReadP w0 w w' n size b s k D W m (pcn size at_ m) (bytesAt (now size D (abs W)) (F * size + at_) m) v c := by
  have sh := h.disk.disk.shape
  have s0 := sh.s0
  have s1 := sh.s1
  have n1 := sh.n1
  have hall : C * size ≤ n * size := Nat.mul_le_mul_right _ (by omega)
  have hB : n * size ≤ 67108864 := sh.all
  have hFn : (F + C) * size ≤ n * size := Nat.mul_le_mul_right _ hFC
  rw [Nat.add_mul] at hFn
  have hA := now_len h.disk.disk.len h.disk.disk.fitsW
  refine gRead_any h hr (by omega) at_ m hfit (by omega) _ ?_
  intro w1 br bo g hg1 hgl hR
  have hd := each_any w1 r b F at_ m size n 140 (.pointer (some ⟨br, 0, none⟩)) (.pointer (some ⟨bo, 0, none⟩))
    (fun j w' => ∃ sj, rgo (pcn size at_ m) s = rgo (pcn size at_ m - j) sj ∧ sj.cnt ≤ s.cnt + j ∧ RdS w0 w' n size b sj k D W r F C br bo g m (splice (zs m) 0 ((bytesAt (now size D (abs W)) (F * size + at_) m).take (min m ((at_ / size + j) * size - at_)))) ∧ Kept w1 w' (fun i => k.own i ∨ i = b ∨ i = g))
    (fun c w' => c = (rgo (pcn size at_ m) s).1 ∧ Dev w0 w' n size b (rgo (pcn size at_ m) s).2 k D W ∧ Kept w1 w' (fun i => k.own i ∨ i = b ∨ i = g))
    (.inl rfl) (by omega) s1 (by omega) (by omega) ?_ ?_ ?_ (dsize_any hR.dev) ?_
  · refine hd.mono ?_
    rintro e w' ⟨c, rfl, ⟨rfl, sj, e1, e2, e3, e4⟩ | ⟨hc0, e1, e2, e3⟩⟩
    · rw [Nat.sub_self] at e1
      rw [Nat.min_eq_left (pc_last (by omega)), List.take_of_length_le (by rw [bytesAt_length (by omega)]; exact Nat.le_refl _), splice_full _ _ (by rw [bytesAt_length (by omega)]; simp [zs])] at e3
      refine ⟨0, rfl, .inl ⟨rfl, e3.hbo, ⟨by rw [e1]; rfl, by rw [e1]; exact e3.dev, ((Kept.new hg1 _).trans e4 (fun i hi e => ?_)), fun _ => ⟨g, rfl, hgl, e3.hg, bytesAt_length (by omega)⟩, fun h => absurd rfl h⟩⟩⟩
      rcases e with e | e | e
      · exact .inl e
      · exact .inr e
      · omega
    · refine ⟨c, rfl, .inr ⟨hc0, ⟨e1, e2, ((Kept.new hg1 _).trans e3 (fun i hi e => ?_)), fun h => absurd h hc0, fun _ => rfl⟩⟩⟩
      rcases e with e | e | e
      · exact .inl e
      · exact .inr e
      · omega
  · have hz : (at_ / size + 0) * size - at_ = 0 := by rw [Nat.add_zero]; have := Nat.div_mul_le_self at_ size; omega
    exact ⟨s, by rw [Nat.sub_zero], by omega, by rw [hz, Nat.min_zero, List.take_zero, splice_nil]; exact hR, Kept.refl _ _⟩
  · rintro j w' q ⟨sj, e1, e2, e3, e4⟩
    exact ⟨sj, e1, e2, e3.then (grown_drewN _ _ _), e4.trans (Kept.new (grown_drewN _ _ _) _) (fun _ _ e => e)⟩
  · rintro j w' ⟨sj, e1, e2, e3, e4⟩
    exact ⟨e3.rg.c0, e3.rg.c1⟩
  · rintro j w' hj ⟨sj, e1, e2, e3, e4⟩
    obtain ⟨S, d, fr, te, N⟩ := pc_nums (by omega) (by omega) hj
    have hS : F + S < n := by
      obtain ⟨h1, h2, h3, h4⟩ := pc_facts (by omega) hj
      apply Nat.lt_of_mul_lt_mul_right (a := size)
      rw [Nat.add_mul, ← N.eS]
      omega
    have hacc := acc_next (F := F) N (by omega) hj hA (by omega)
    unfold partV
    rw [N.ed, N.ef, N.et, N.eS]
    rw [N.ed, N.d2] at e3
    have nd := N.d1
    have nx := N.nx
    obtain ⟨q, hq⟩ : ∃ q, pcn size at_ m - j = q + 1 := ⟨pcn size at_ m - j - 1, by omega⟩
    rw [hq] at e1
    cases hgo : sj.goes with
    | true =>
      refine (rd1_go e3 (by omega) hgo (F + S) fr te d hS N.f1 N.t1 (by omega)).mono ?_
      rintro e w2 ⟨rfl, q1, q2⟩
      rw [← now_found h.disk.disk.len h.disk.disk.fitsW (F + S) hS, hacc] at q1
      refine ⟨0, rfl, .inl ⟨rfl, sj.next, ?_, ?_, q1, e4.trans q2 (fun _ _ e => e)⟩⟩
      · rw [e1, rgo, if_pos hgo]; congr 1; omega
      · rw [Dv.goes_next_cnt hgo]; omega
    | false =>
      refine (rd1_no e3 (by omega) hgo _ _ _ _).mono ?_
      rintro e w2 ⟨rfl, q1, q2⟩
      refine ⟨60, rfl, .inr ⟨by omega, ?_, ?_, e4.trans q2 (fun _ _ e => e.imp id .inl)⟩⟩
      · rw [e1, rgo, hgo]; rfl
      · rw [e1, rgo, hgo]; exact q1.dev
end
end Go.Proofs.YtonokaelbpfjnaaGreatDoor
