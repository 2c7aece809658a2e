/- Things by their worth. -/
import Derived.Test.YtkbhjdjdjfdikaaTj
import Derived.Test.YtkbhjdjdjfdikaaHy
import Derived.Laws.Cover2
import Derived.Laws.FloatArith
namespace Go.Proofs.Ytkbhjdjdjfdikaa.Th
open Go.RowKit Ap Go.Proofs.Ytkbhjdjdjfdikaa
attribute [local go_sem ↓] Go.wp_at_zero Go.wp_at_succ
attribute [local go_sem] run_store_float
/-- A small number as a float's bits. -/
def fw (a : Nat) : Nat := floatOfInt .f64 (a : Int)
def rk (b : Nat) : Nat := (List.range 20).findIdx (fun a => fw a == b)
theorem fw_table : ∀ a b : Fin 20, (FloatKind.f64.format.order (fw a) (fw b) == some .lt) = decide (a.1 < b.1) ∧ (FloatKind.f64.format.order (fw a) (fw b) == some .eq) = decide (a.1 = b.1) ∧ rk (fw a) = a.1 ∧ (FloatKind.f64.format.order (fw a) 13830554455654793216 == some .lt) = false ∧ (FloatKind.f64.format.order (fw a) 13830554455654793216 == some .eq) = false := by decide +kernel
theorem fw_lt {a b : Nat} (ha : a < 20) (hb : b < 20) : (FloatKind.f64.format.order (fw a) (fw b) == some .lt) = decide (a < b) := (fw_table ⟨a, ha⟩ ⟨b, hb⟩).1
theorem fw_eq {a b : Nat} (ha : a < 20) (hb : b < 20) : (FloatKind.f64.format.order (fw a) (fw b) == some .eq) = decide (a = b) := (fw_table ⟨a, ha⟩ ⟨b, hb⟩).2.1
theorem rk_fw {a : Nat} (ha : a < 20) : rk (fw a) = a := (fw_table ⟨a, ha⟩ ⟨a, ha⟩).2.2.1
def Wo (x : It) : Prop := ∃ a, a < 20 ∧ x.f = fw a
def lsT : Les := ⟨24, #[], fun a b => decide (((rk a.f : Nat) : Int) < ((rk b.f : Nat) : Int)), Wo, fun _ => True, fun _ => False, fun _ => False⟩
set_option maxRecDepth 20000 in
theorem lsT_ok : lsT.Ok := by
  refine ⟨⟨rfl, rfl⟩, fun x y w hI hx hy => ?_, fun _ _ _ _ _ _ => trivial, fun _ _ _ e => e.elim, fun _ e => e.elim⟩
  obtain ⟨a, ha, hxa⟩ := hx
  obtain ⟨b, hb, hyb⟩ := hy
  have e1 : lsT.lt x y = (FloatKind.f64.format.order x.f y.f == some .lt) := by
    show decide (((rk x.f : Nat) : Int) < ((rk y.f : Nat) : Int)) = _
    rw [hxa, hyb, rk_fw ha, rk_fw hb, fw_lt ha hb]
    simp
  show Calls Try.prog 24 #[.agg #[.string x.s, .float .f64 x.f], .agg #[.string y.s, .float .f64 y.f]] w fun e w' => e = .returned (.bool (lsT.lt x y)) ∧ True ∧ Kept w w' (fun _ => False)
  rw [e1]
  clear e1 hxa hyb
  have HG := hide (grown_trans (World.grownBy_alloc w (.cells #[.string x.s, .float .f64 x.f] 63) none) (World.grownBy_alloc (w.alloc (.cells #[.string x.s, .float .f64 x.f] 63)) (.cells #[.string y.s, .float .f64 y.f] 63) none))
  generalize x.s = xs at *
  generalize x.f = xf at *
  generalize y.s = ys at *
  generalize y.f = yf at *
  go_enter Try.func24, Try.ntmps24
  go_wp2
  go_ret
  exact ⟨rfl, trivial, Kept.new HG.out _⟩
/-- A heap of things that lies in blocks that were not there in w0. -/
structure HO (w0 w : World) (h : Nat) (E : List (Nat × It)) (N B : Nat) : Prop where
  hs : ∃ p T, p.h = h ∧ HS w lsT p E T N B ∧ (∀ j, p.own j → w0.heap.size ≤ j)
  grown : w0.grownBy w none
section
variable {w0 w w' : World} {h : Nat} {E : List (Nat × It)} {N B : Nat}
theorem HO.step {p q : Hp} {E' : List (Nat × It)} {T' : List Nat} {N' B' : Nat} (o : HO w0 w h E N B) (hp : p.h = h) (hown : ∀ j, p.own j → w0.heap.size ≤ j) (h1 : HS w' lsT q E' T' N' B') (h2 : Hst w w' lsT p q) : HO w0 w' h E' N' B' := by
  refine ⟨⟨q, T', h2.h.trans hp, h1, fun j e => ?_⟩, ?_⟩
  · rcases h2.own j e with e | e
    · exact hown j e
    · exact Nat.le_trans o.grown.size e
  · have k : Kept w0 w' (fun _ => False) := (Kept.new o.grown _).trans h2.kept (fun i hi e => by
      rcases e with e | e
      · exact e.elim
      · have := hown i e; omega)
    exact k.grown (fun _ _ e => e)
theorem HO.then (o : HO w0 w h E N B) (g : w.grownBy w' none) : HO w0 w' h E N B := by
  obtain ⟨p, T, hp, h1, h2⟩ := o.hs
  exact ⟨⟨p, T, hp, h1.then lsT_ok g, h2⟩, grown_trans o.grown g⟩
/-- What happens to blocks that are not the heap's. -/
theorem HO.far (o : HO w0 w h E N B) {X : Nat → Prop} (k : Kept w w' X) (hX : ∀ p T, p.h = h → HS w lsT p E T N B → (∀ j, p.own j → w0.heap.size ≤ j) → ∀ i, p.own i → ¬ X i) (h0 : ∀ i, X i → w0.heap.size ≤ i) : HO w0 w' h E N B := by
  obtain ⟨p, T, hp, h1, h2⟩ := o.hs
  exact ⟨⟨p, T, hp, ⟨h1.at_.far k (hX p T hp h1 h2) trivial, h1.good, h1.hds, h1.ok⟩, h2⟩, ((Kept.new o.grown (fun _ => False)).trans k (fun i hi e => by have := h0 i e; omega)).grown (fun _ _ e => e)⟩
theorem ho_new (w0 w : World) (g : w0.grownBy w none) : Calls Try.prog 23 #[.func (.func 24) #[] #[]] w fun e w' => ∃ h, e = .returned (.pointer (some ⟨h, 0, none⟩)) ∧ HO w0 w' h [] 0 0 := by
  refine (new_any (w := w) lsT_ok trivial).mono ?_
  rintro e w' ⟨p, rfl, h1, h2, h3⟩
  exact ⟨p.h, rfl, ⟨p, [], rfl, h1, fun j e => Nat.le_trans g.size (h3 j e)⟩, grown_trans g h2⟩
theorem ho_push (o : HO w0 w h E N B) (hE : E.length < 65536) (hN : N ≤ 100000000) (hB : B ≤ 100000000) (v : It) (hv : Wo v) :
    Calls Try.prog 25 #[.pointer (some ⟨h, 0, none⟩), .agg #[.string v.s, .float .f64 v.f]] w fun e w' => e = .returned (.tuple #[.int .i64 (N : Int), .int .i64 0]) ∧ HO w0 w' h (E ++ [(N, v)]) (N + 1) (B + 1) := by
  obtain ⟨p, T, rfl, h1, h2⟩ := o.hs
  refine (push_any lsT_ok h1 hE hN hB v hv).mono ?_
  rintro e w' ⟨rfl, q, T', h3, h4⟩
  exact ⟨rfl, o.step rfl h2 h3 h4⟩
theorem ho_set (o : HO w0 w h E N B) (hE : E.length ≤ 65536) (x : Int) (v : It) (hx : (Lit.int .i64 x).wf = true) (hv : Wo v) :
    Calls Try.prog 27 #[.pointer (some ⟨h, 0, none⟩), .int .i64 x, .agg #[.string v.s, .float .f64 v.f]] w fun e w' => e = .returned (.bool (fi E x).isSome) ∧ HO w0 w' h ((fi E x).elim E fun i => setI E i v) N B := by
  obtain ⟨p, T, rfl, h1, h2⟩ := o.hs
  refine (set_any lsT_ok h1 hE x v hx hv).mono ?_
  rintro e w' ⟨rfl, T', h3, h4⟩
  exact ⟨rfl, o.step rfl h2 h3 h4⟩
theorem ho_drop (o : HO w0 w h E N B) (hE : E.length ≤ 65536) (hN : N ≤ 100000000) (hB : B ≤ 100000000) (x : Int) (hx : (Lit.int .i64 x).wf = true) :
    Calls Try.prog 26 #[.pointer (some ⟨h, 0, none⟩), .int .i64 x] w fun e w' => e = .returned (.bool (fi E x).isSome) ∧ HO w0 w' h ((fi E x).elim E fun i => outE E i) N (B + 1) := by
  obtain ⟨p, T, rfl, h1, h2⟩ := o.hs
  refine (drop_any lsT_ok h1 hE hN hB x hx).mono ?_
  rintro e w' ⟨rfl, q, T', h3, h4⟩
  exact ⟨rfl, o.step rfl h2 h3 h4⟩
theorem ho_len (o : HO w0 w h E N B) : Calls Try.prog 28 #[.pointer (some ⟨h, 0, none⟩)] w fun e w' => e = .returned (.int .i64 (E.length : Int)) ∧ w' = w := by
  obtain ⟨p, T, rfl, h1, h2⟩ := o.hs
  exact len_at h1.at_
/-- What is popped: the least one by its worth, then by its handle. -/
theorem ho_pop (o : HO w0 w h E N B) (hz : 0 < E.length) (hE : E.length ≤ 65536) (hN : N ≤ 100000000) (hB : B ≤ 100000000) : Calls Try.prog 29 #[.pointer (some ⟨h, 0, none⟩)] w fun e w' => ∃ i, i < E.length ∧ (∀ c, c < E.length → Le (fun x : It => ((rk x.f : Nat) : Int)) (en E i) (en E c)) ∧ e = .returned (.tuple #[.agg #[.string (en E i).2.s, .float .f64 (en E i).2.f], .int .i64 ((en E i).1 : Int), .bool true]) ∧ HO w0 w' h (outE E i) N (B + 1) := by
  obtain ⟨p, T, rfl, h1, h2⟩ := o.hs
  refine (pop_any lsT_ok h1 hz hE hN hB).mono ?_
  rintro e w' ⟨rfl, q, T', h3, h4⟩
  exact ⟨tn T 0, (h1.good.sub 0 hz).2, h1.good.least (r := fun x : It => ((rk x.f : Nat) : Int)) (fun i j _ _ => rfl), rfl, o.step rfl h2 h3 h4⟩
theorem ho_pop_none (o : HO w0 w h E N B) (hz : E.length = 0) : Calls Try.prog 29 #[.pointer (some ⟨h, 0, none⟩)] w fun e w' => e = .returned (.tuple #[.agg #[.string ⟨#[]⟩, .float .f64 0], .int .i64 0, .bool false]) ∧ HO w0 w' h E N B := by
  obtain ⟨p, T, rfl, h1, h2⟩ := o.hs
  refine (pop_none lsT_ok h1 hz).mono ?_
  rintro e w' ⟨rfl, g⟩
  exact ⟨rfl, o.then g⟩
theorem HO.hds (o : HO w0 w h E N B) : Hds E N := by
  obtain ⟨p, T, -, h1, -⟩ := o.hs
  exact h1.hds
theorem HO.ok (o : HO w0 w h E N B) : ∀ e ∈ E, Wo e.2 := by
  obtain ⟨p, T, -, h1, -⟩ := o.hs
  exact h1.ok
end
end Go.Proofs.Ytkbhjdjdjfdikaa.Th
