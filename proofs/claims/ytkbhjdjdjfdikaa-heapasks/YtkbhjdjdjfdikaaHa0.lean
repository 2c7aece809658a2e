/- A less that looks whether it may be asked. -/
import Derived.Test.YtkbhjdjdjfdikaaArgO
namespace Go.Proofs.Ytkbhjdjdjfdikaa
open Go.RowKit Ap
attribute [local go_sem ↓] Go.wp_at_zero Go.wp_at_succ
/-- ob: what was asked oddly, mx: the map's variable, mm: the map, of at most Bm entries; P: of whom may be asked. -/
def lsA (ob mx mm : Nat) (P : Int → Prop) (Bm : Nat) : Les := ⟨30, #[.pointer (some ⟨ob, 0, none⟩), .pointer (some ⟨mx, 0, none⟩)], fun a b => decide (a < b), fun a => P a ∧ I64 a, fun w => w.heap[ob]? = some (.cells #[.bool false] 4 (0, 0)) ∧ w.heap[mx]? = some (.cells #[.map (some mm)] 55 (0, 0)) ∧ ∃ f, MapAt w Try.prog 3 mm Bm f ∧ ∀ a, P a → f a = some (.int .i64 1), fun i => i = ob ∨ i = mx ∨ i = mm, fun _ => False⟩
set_option maxRecDepth 20000 in
theorem lsA_ok (ob mx mm : Nat) (P : Int → Prop) (Bm : Nat) : (lsA ob mx mm P Bm).Ok := by
  refine ⟨.inr ⟨rfl, _, _, rfl⟩, fun x y w hI hx hy => ?_, fun w w' X hI hk hX => ?_, fun w i hI hi => ?_, fun _ e => e.elim⟩
  · obtain ⟨h1, h2, f, h3, h4⟩ := hI
    have h1' : w.heap[ob]? = some (.cells [Value.bool false].toArray 4 (0, 0)) := h1
    have h2' : w.heap[mx]? = some (.cells [Value.map (some mm)].toArray 55 (0, 0)) := h2
    have c0 := cell_row h1' 0
    have c1 := cell_row h2' 0
    have f0 : w.frozen? ⟨ob, 0, none⟩ = false := free_row h1' 0
    simp at c0 c1
    have k3 : Try.prog.underlying 3 = some (.int .i64) := by first | exact Try.underlying3 | kernel_rfl
    have hlx := h3.get k3 Try.underlying55 (zero3 w) (wf_i64 hx.2.1 hx.2.2)
    have hly := h3.get k3 Try.underlying55 (zero3 w) (wf_i64 hy.2.1 hy.2.2)
    rw [h4 x hx.1] at hlx
    rw [h4 y hy.1] at hly
    simp only [Option.getD] at hlx hly
    have hset : w.setCell ⟨ob, 0, none⟩ (.bool false) = w.setCell ⟨ob, 0, none⟩ (.bool false) := rfl
    have k : Kept w (w.setCell ⟨ob, 0, none⟩ (.bool false)) (fun _ => False) := by
      have k0 := kept_setCell w ob 0 (.bool false)
      refine ⟨k0.os, k0.tape, k0.output, k0.size, fun i hi _ => ?_⟩
      by_cases e : i = ob
      · subst e
        rw [row_setCell h1' 0, h1']
        rfl
      · exact k0.block i hi e
    have hI2 : (lsA ob mx mm P Bm).I (w.setCell ⟨ob, 0, none⟩ (.bool false)) := ⟨k.at h1 (fun e => e), k.at h2 (fun e => e), f, h3.same (k.block _ h3.lt (fun e => e)), h4⟩
    show Calls Try.prog 30 #[.int .i64 x, .int .i64 y, .pointer (some ⟨ob, 0, none⟩), .pointer (some ⟨mx, 0, none⟩)] w fun e w' => e = .returned (.bool (decide (x < y))) ∧ (lsA ob mx mm P Bm).I w' ∧ Kept w w' (fun _ => False)
    have HI := hide (And.intro hI2 k)
    clear hI2 k hset h1 h2 h1' h2' h3 h4 hx hy k3
    obtain ⟨r, hr⟩ : ∃ r, r = decide (x < y) := ⟨_, rfl⟩
    rw [← hr]
    have HR := hide hr
    clear hr
    go_enter Try.func30, Try.ntmps30
    go_wp2
    go_ret
    exact ⟨by rw [HR.out]; rfl, HI.out⟩
  · obtain ⟨h1, h2, f, h3, h4⟩ := hI
    exact ⟨hk.at h1 (fun e => hX ob e (.inl rfl)), hk.at h2 (fun e => hX mx e (.inr (.inl rfl))), f, h3.same (hk.block _ h3.lt (fun e => hX mm e (.inr (.inr rfl)))), h4⟩
  · obtain ⟨h1, h2, f, h3, h4⟩ := hI
    rcases hi with rfl | rfl | rfl
    · exact row_lt h1
    · exact row_lt h2
    · exact h3.lt
section
variable {w0 w w' : World} {L L' : Les} {h : Nat} {E : List (Nat × Int)} {N B : Nat}
/-- What less looks at turned: of what is asked now. -/
theorem HO.relab (o : HO w0 w L h E N B) {X : Nat → Prop} (k : Kept w w' X) (hX : ∀ i, X i → L.F i) (hX0 : ∀ i, X i → w0.heap.size ≤ i) (e1 : L'.fv = L.fv) (e2 : L'.lt = L.lt) (e3 : L'.F = L.F) (e4 : L'.S = L.S) (hI : L'.I w') (hok : ∀ e ∈ E, L'.ok e.2) : HO w0 w' L' h E N B := by
  obtain ⟨p, T, hp, h1, h2⟩ := o.hs
  have hfar : ∀ i, p.own i → ¬ X i := fun i hi e => h1.at_.off i hi (hX i e)
  refine ⟨⟨p, T, hp, ⟨⟨?_, row_same h1.at_.ent (fun g hg => k.block g (h1.at_.lt g (.inr (.inl hg))) (hfar g (.inr (.inl hg)))), row_same h1.at_.lst (fun g hg => k.block g (h1.at_.lt g (.inr (.inr (.inl hg)))) (hfar g (.inr (.inr (.inl hg))))), h1.at_.map.same (k.block _ h1.at_.map.lt (hfar _ (.inr (.inr (.inr rfl))))), hI, by rw [e3]; exact h1.at_.off⟩, by rw [e2]; exact h1.good, h1.hds, hok⟩, h2⟩, ?_, by rw [e4]; exact o.sl⟩
  · have := k.at h1.at_.head (hfar _ (.inl rfl))
    unfold hpc at this ⊢
    rw [e1]
    exact this
  · exact ((Kept.new o.grown (fun _ => False)).trans k (fun i hi e => by have := hX0 i e; omega)).grown (fun _ _ e => e)
end
/-- The items are unlike, and lie from 1 to c. -/
structure Its (E : List (Nat × Int)) (c : Int) : Prop where
  inj : ∀ i j, i < E.length → j < E.length → (en E i).2 = (en E j).2 → i = j
  lo : ∀ i, i < E.length → 1 ≤ (en E i).2
  hi : ∀ i, i < E.length → (en E i).2 ≤ c
theorem Its.mono {E : List (Nat × Int)} {c d : Int} (h : Its E c) (hcd : c ≤ d) : Its E d := ⟨h.inj, h.lo, fun i hi => Int.le_trans (h.hi i hi) hcd⟩
theorem Its.push {E : List (Nat × Int)} {c : Int} (h : Its E c) (N : Nat) (hc : 0 ≤ c) : Its (E ++ [(N, c + 1)]) (c + 1) := by
  have hl : ∀ i, i < E.length + 1 → en (E ++ [(N, c + 1)]) i = if i < E.length then en E i else (N, c + 1) := by
    intro i hi
    split
    · rename_i h1; exact en_append_left h1
    · rename_i h1
      have : i = E.length := by omega
      subst this
      simp [en]
  refine ⟨fun i j hi hj e => ?_, fun i hi => ?_, fun i hi => ?_⟩
  · simp at hi hj
    rw [hl i hi, hl j hj] at e
    split at e <;> split at e
    · exact h.inj i j (by omega) (by omega) e
    · have := h.hi i (by omega); simp at e; omega
    · have := h.hi j (by omega); simp at e; omega
    · omega
  · simp at hi
    rw [hl i hi]
    split
    · exact h.lo i (by omega)
    · simp; omega
  · simp at hi
    rw [hl i hi]
    split
    · have := h.hi i (by omega); omega
    · simp
theorem Its.out {E : List (Nat × Int)} {c : Int} (h : Its E c) {i : Nat} (hi : i < E.length) : Its (outE E i) c ∧ ∀ e ∈ outE E i, e ∈ E ∧ e.2 ≠ (en E i).2 := by
  have hm : ∀ j, j < E.length - 1 → ∃ k, k < E.length ∧ k ≠ i ∧ en (outE E i) j = en E k ∧ (j = i → k = E.length - 1) ∧ (j ≠ i → k = j) := fun j hj => by
    rw [outE_get hi hj]
    split
    · rename_i e; exact ⟨E.length - 1, by omega, by omega, rfl, fun _ => rfl, fun e2 => absurd e e2⟩
    · rename_i e; exact ⟨j, by omega, e, rfl, fun e2 => absurd e2 e, fun _ => rfl⟩
  refine ⟨⟨fun a b ha hb e => ?_, fun a ha => ?_, fun a ha => ?_⟩, fun e he => ?_⟩
  · rw [outE_length] at ha hb
    obtain ⟨k1, a1, a2, a3, a4, a5⟩ := hm a ha
    obtain ⟨k2, b1, b2, b3, b4, b5⟩ := hm b hb
    rw [a3, b3] at e
    have := h.inj k1 k2 a1 b1 e
    by_cases ea : a = i <;> by_cases eb : b = i
    · omega
    · have := a4 ea; have := b5 eb; omega
    · have := a5 ea; have := b4 eb; omega
    · have := a5 ea; have := b5 eb; omega
  · rw [outE_length] at ha
    obtain ⟨k1, a1, a2, a3, -, -⟩ := hm a ha
    rw [a3]; exact h.lo k1 a1
  · rw [outE_length] at ha
    obtain ⟨k1, a1, a2, a3, -, -⟩ := hm a ha
    rw [a3]; exact h.hi k1 a1
  · obtain ⟨j, hj, rfl⟩ := List.getElem_of_mem he
    rw [outE_length] at hj
    obtain ⟨k1, a1, a2, a3, -, -⟩ := hm j hj
    have e1 : en (outE E i) j = (outE E i)[j] := by unfold en; rw [List.getElem?_eq_getElem (by rw [outE_length]; exact hj)]; rfl
    rw [← e1, a3]
    exact ⟨en_mem a1, fun e => a2 (h.inj k1 i a1 hi e)⟩
theorem Its.setI {E : List (Nat × Int)} {c : Int} (h : Its E c) (hc : 0 ≤ c) {i : Nat} (hi : i < E.length) : Its (setI E i (c + 1)) (c + 1) ∧ ∀ e ∈ setI E i (c + 1), (∃ e' ∈ E, e'.2 = e.2) ∧ e.2 ≠ (en E i).2 ∨ e.2 = c + 1 := by
  have hg : ∀ j, (en (Go.Proofs.Ytkbhjdjdjfdikaa.setI E i (c + 1)) j).2 = if j = i then c + 1 else (en E j).2 := fun j => by
    rw [setI_get hi]; split <;> rfl
  refine ⟨⟨fun a b ha hb e => ?_, fun a ha => ?_, fun a ha => ?_⟩, fun e he => ?_⟩
  · rw [setI_length] at ha hb
    rw [hg, hg] at e
    split at e <;> split at e
    · omega
    · have := h.hi b hb; omega
    · have := h.hi a ha; omega
    · exact h.inj a b ha hb e
  · rw [setI_length] at ha
    rw [hg]
    split
    · omega
    · exact h.lo a ha
  · rw [setI_length] at ha
    rw [hg]
    split
    · omega
    · have := h.hi a ha; omega
  · obtain ⟨j, hj, rfl⟩ := List.getElem_of_mem he
    have hj2 : j < E.length := by rw [setI_length] at hj; exact hj
    have e1 : en (Go.Proofs.Ytkbhjdjdjfdikaa.setI E i (c + 1)) j = (Go.Proofs.Ytkbhjdjdjfdikaa.setI E i (c + 1))[j] := by unfold en; rw [List.getElem?_eq_getElem hj]; rfl
    rw [← e1, hg]
    split
    · exact .inr rfl
    · rename_i hne
      exact .inl ⟨⟨en E j, en_mem hj2, rfl⟩, fun e => hne (h.inj j i hj2 hi e)⟩
end Go.Proofs.Ytkbhjdjdjfdikaa
