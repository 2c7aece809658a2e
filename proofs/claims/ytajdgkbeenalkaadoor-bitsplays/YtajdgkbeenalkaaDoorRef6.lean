/- The contracts of the document's own set, continued: Copy. -/
import Derived.Test.YtajdgkbeenalkaaDoorRef5
import Derived.Laws.AppendOwnNone
namespace Go.Proofs.YtajdgkbeenalkaaDoor
open Go.RowKit Go.Shelf
attribute [local go_sem ↓] Go.wp_at_zero Go.wp_at_succ

/-- append(s, x...), of bools, as one step of a region that draws its order. -/
theorem step_append_bools {w : World} {ops : Array Oper} {o : Oper} {a : Act} {K : Act → World → Prop} {Q : Exit → Act → World → Prop} {E : Prop} (hgd : o.guard = none) (s x : Operand)
    (ho : o.op = .call { callee := .builtin .append, args := #[s, x], argTypes := #[31, 31] }) (base : Nat) (v : Value) (n : Nat) (xs : List Value) (hs : a.eval s = v) (hown : w.ownsRow base 4 1 v n xs)
    (ao : Option Addr) (m c : Nat) (ys : List Value) (hx : a.eval x = .slice ao m c) (hm : ys.length = m) (hat : AtV w ao ys) (h1c : ∀ u ∈ ys, u.oneCell' = true) (hnil : ao = none → m = 0 ∧ c = 0)
    (hbytes : n + m ≤ 140737488355328) (hbase : base ≤ w.heap.size)
    (h : ∀ v' w', w'.ownsRow base 4 1 v' (n + m) (xs ++ ys) → w.grownBy w' v.ownBlock → (v ≠ .slice none 0 0 → v' ≠ .slice none 0 0) → K (a.put o.dst v') w') :
    if Region.wanted o (yielded ops a.tmps) = true then Oper.wp Tryd.prog o a w K Q else E := by
  have hw : Region.wanted o (yielded ops a.tmps) = true := by simp [Region.wanted, hgd]
  rw [if_pos hw]
  obtain ⟨i0, hi, hz0, hz1, hz2⟩ := info_parts Tryd.info4
  cases ao with
  | none =>
    obtain ⟨rfl, rfl⟩ := hnil rfl
    have hrun := run_append_owned_none (P := Tryd.prog) (w := w) base 31 o.type 4 i0 1 Tryd.underlying31 hi v n xs hown
    unfold Oper.wp
    simp [execOp, ho, resolve, invoke, builtin, hs, hx, hrun, Result.andThen]
    have : ys = [] := List.eq_nil_of_length_eq_zero hm
    subst this
    exact h v w (by simpa using hown) (grown_refl w _) (fun h => h)
  | some ad =>
    refine wp_append_own _ s x 31 ho base 4 i0 (.bool false) 1 1 Tryd.underlying31 hi hz0 hz1 hz2 rfl (by decide) v n xs hs hown ad m c ys hx (by simp [hm]) ?_ h1c (by unfold maxLen; omega) (by omega) hbase (fun v' w' h1 h2 h3 => h v' w' h1 h2 (fun hv hv' => hv (h3.1 hv').1))
    intro j u hu
    obtain ⟨a', ha', hc'⟩ := hat j u hu
    cases ha'
    exact hc'

structure CpS (w0 w : World) (d : Nat) (t : Bool) (L : List Bool) (ao : Option Addr) (cap : Nat) : Prop where
  c0 : w.cell? ⟨d, 0, none⟩ = some (.bool t)
  c1 : w.cell? ⟨d, 1, none⟩ = some (.slice ao L.length cap)
  at_ : AtV w ao (L.map Value.bool)
  grown : w0.grownBy w none
theorem CpS.kept {w0 w w' : World} {d : Nat} {t : Bool} {L : List Bool} {ao : Option Addr} {cap : Nat} (h : CpS w0 w d t L ao cap) (hg : w.grownBy w' none) : CpS w0 w' d t L ao cap :=
  ⟨hg.cell h.c0 (by simp), hg.cell h.c1 (by simp), h.at_.grown hg, grown_trans h.grown hg⟩

theorem CpS.row {w0 w w' : World} {d k : Nat} {t : Bool} {L : List Bool} {ao : Option Addr} {cap : Nat} (h : CpS w0 w d t L ao cap) (hg : w.grownBy w' (some k)) (hk : w0.heap.size ≤ k) (hd : d < w0.heap.size) (ha : ∀ a, ao = some a → a.block < w0.heap.size) : CpS w0 w' d t L ao cap :=
  ⟨hg.cell h.c0 (by simp; omega), hg.cell h.c1 (by simp; omega), h.at_.kept hg (fun a e => by have := ha a e; simp; omega), grown_then h.grown hg (fun j e => by cases e; exact Or.inl hk)⟩
theorem RefAt.slice_lt {w : World} {d r : Nat} {t : Bool} {L : List Bool} (h : RefAt w d r t L) : ∃ ao cap, w.cell? ⟨d, 1, none⟩ = some (.slice ao L.length cap) ∧ (ao = none → L.length = 0 ∧ cap = 0) ∧ AtV w ao (L.map Value.bool) ∧ ∀ a, ao = some a → a.block < w.heap.size := by
  obtain ⟨ao, cap, h1, h2, h3⟩ := h.bools
  refine ⟨ao, cap, h1, h2, h3, ?_⟩
  obtain ⟨ao', cap', k1, k2, k3⟩ := h
  have e : some (Value.slice ao L.length cap) = some (Value.slice ao' L.length cap') := by rw [← h1]; simp [World.cell?, k1]
  simp at e
  intro a ha
  rcases k3 with ⟨k4, _⟩ | ⟨cur, k4, k5, _⟩
  · rw [e.1, k4] at ha; cases ha
  · rw [e.1, k4] at ha; cases ha; exact row_lt k5

set_option maxHeartbeats 1000000 in
theorem rcopy_any (d r : Nat) (t : Bool) (L : List Bool) (w : World) (h : RefAt w d r t L) :
    Calls Tryd.prog 17 #[.pointer (some ⟨d, 0, none⟩)] w fun e w' => ∃ d' r', e = .returned (.pointer (some ⟨d', 0, none⟩)) ∧ RefAt w' d' r' t L ∧ w.heap.size ≤ d' ∧ w.heap.size ≤ r' ∧ w.grownBy w' none := by
  obtain ⟨ao, cap, hc, hnil, hat, hal⟩ := h.slice_lt
  have hdl := h.lt
  have ht := h.there
  have hsm := h.small
  have HS0 : Hid (CpS w w.drew d t L ao cap) := CpS.kept (w := w) ⟨ht, hc, hat, grown_refl _ _⟩ (grown_drew _ _)
  have HS1 : Hid (CpS w (w.drew.alloc (.cells #[] 4)) d t L ao cap) := HS0.out.kept (World.grownBy_alloc _ _ none)
  clear h hc hat ht
  go_enter Tryd.func17, Tryd.ntmps17
  go_wp2_with fail
  go_region_held3 (fun w' => w'.cell? ⟨d, 0, none⟩ = some (.bool t) ∧ w'.cell? ⟨d, 1, none⟩ = some (.slice ao L.length cap) ∧ CpS w w' d t L ao cap) (first | assumption | exact ⟨HS0.out.c0, HS0.out.c1, HS0.out⟩ | exact ⟨HS1.out.c0, HS1.out.c1, HS1.out⟩ | exact ⟨(CpS.kept hS2 (World.grownBy_alloc _ _ none)).c0, (CpS.kept hS2 (World.grownBy_alloc _ _ none)).c1, CpS.kept hS2 (World.grownBy_alloc _ _ none)⟩)
    ((refine step_append_bools rfl (.tmp 7) (.tmp 11) rfl w.heap.size (.slice (some ⟨w.heap.size, 0, none⟩) 0 0) 0 [] (by rfl) (World.ownsRow_made w.drew #[] 0 (Nat.le_refl _) (Nat.zero_le _) rfl) ao L.length cap (L.map Value.bool) (by rfl) (by simp) HS1.out.at_ (fun u hu => by rw [List.mem_map] at hu; obtain ⟨y, _, rfl⟩ := hu; rfl) hnil (by omega) (by simp) ?_; intro v' w2 hown2 hg2 hne2; have hS2 := HS1.out.row hg2 (Nat.le_refl _) hdl hal; have hS3 := And.intro hS2.c0 (And.intro hS2.c1 hS2); obtain ⟨_, hw2 | ⟨r2, cap2, cur2, rfl, hb2, hr2, hn2, hm2, hs2, ht2⟩⟩ := hown2; exact absurd hw2.1 (hne2 (by simp)); have HO := hide (And.intro hr2 (And.intro hs2 ht2)); clear hr2 hs2 ht2 hne2 hg2; simp only [Nat.zero_add] at hn2 HO ⊢))
  go_wp2
  go_ret
  obtain ⟨o1, o2, o3⟩ := HO.out
  refine ⟨w2.heap.size, r2, rfl, ?_, hS2.grown.size, hb2, grown_trans hS2.grown (World.grownBy_alloc w2 _ none)⟩
  obtain ⟨cl⟩ := cur2
  refine ⟨_, cap2, heap_alloc_new w2 _, hsm, Or.inr ⟨cl, rfl, ?_, by simpa using o3, by simpa using o2, hn2, hm2⟩⟩
  rw [Below.heap_alloc _ _ _ (row_lt o1), o1]

end Go.Proofs.YtajdgkbeenalkaaDoor
