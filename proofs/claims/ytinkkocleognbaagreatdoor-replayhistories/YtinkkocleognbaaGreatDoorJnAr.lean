/- Texts joined: Rp5, Rp6, Rp7, Rn. -/
import Derived.Test.YtinkkocleognbaaGreatDoorJnAp
import Derived.Test.YtinkkocleognbaaGreatDoorJnAq
namespace Go.Proofs.YtinkkocleognbaaGreatDoor
/- Find. -/
open Go.RowKit Go.Shelf
attribute [local go_sem ↓] Go.wp_at_zero Go.wp_at_succ
attribute [local go_sem] Oper.semAt_some
/-- The first of the numbers up to n, not below fr, of which g is so. -/
def fiR (g : Nat → Bool) (fr : Int) (n : Nat) : Option Nat := (List.range (n + 1)).find? fun k => decide (fr ≤ (k : Int)) && g k
def fiV : Option Nat → Value
  | some k => .tuple #[.int .i64 (k : Int), .bool true]
  | none => .tuple #[.int .i64 0, .bool false]
theorem find_range {n : Nat} {q : Nat → Bool} {k : Nat} (hk : k < n) (hq : q k = true) (hn : ∀ j, j < k → q j = false) : (List.range n).find? q = some k := by
  induction n with
  | zero => omega
  | succ n ih =>
    rw [List.range_succ, List.find?_append]
    by_cases h : k < n
    · rw [ih h]; rfl
    · obtain rfl : k = n := by omega
      have : (List.range k).find? q = none := by
        rw [List.find?_eq_none]
        intro x hx
        rw [hn x (by simpa using hx)]
        simp
      rw [this]
      simp [hq]
theorem fiR_some {g : Nat → Bool} {fr : Int} {n k : Nat} (hk : k ≤ n) (h1 : fr ≤ (k : Int)) (h2 : g k = true) (hn : ∀ j, j < k → ¬ (fr ≤ (j : Int) ∧ g j = true)) : fiR g fr n = some k := by
  refine find_range (by omega) (by simp [h1, h2]) (fun j hj => ?_)
  have := hn j hj
  cases hg : g j with
  | false => simp
  | true => simp only [Bool.and_true, decide_eq_false_iff_not]; exact fun e => this ⟨e, hg⟩
theorem fiR_none {g : Nat → Bool} {fr : Int} {n : Nat} (hn : ∀ j, j ≤ n → ¬ (fr ≤ (j : Int) ∧ g j = true)) : fiR g fr n = none := by
  unfold fiR
  rw [List.find?_eq_none]
  intro j hj
  have := hn j (by have := List.mem_range.1 hj; omega)
  simp only [Bool.and_eq_true, decide_eq_true_eq]
  exact this
theorem results_find (tmps : Array Value) (w : World) (g1 g2 : Nat) (v v' : Value) (hp : tmps.getD 8 undef = .pointer (some ⟨g1, 0, none⟩)) (hu : tmps.getD 9 undef = .pointer (some ⟨g2, 0, none⟩)) (hc : w.cell? ⟨g1, 0, none⟩ = some v) (hd : w.cell? ⟨g2, 0, none⟩ = some v') :
    (results Tryz.f11 tmps).run Tryz.prog w = .ok (.tuple #[v, v']) w := by
  have hp' : tmps[8]?.getD undef = .pointer (some ⟨g1, 0, none⟩) := by simpa using hp
  have hu' : tmps[9]?.getD undef = .pointer (some ⟨g2, 0, none⟩) := by simpa using hu
  simp [results, hp', hu', asAddr]
  go_simp
theorem keep1 (w : World) (o : Obj) {i : Nat} {x : Obj} (h : w.heap[i]? = some x) : (w.alloc o).heap[i]? = some x := ((grown_alloc w o).block _ (row_lt h) (by simp)).trans h
/-- Boxes, one behind the other. -/
theorem boxes5 (w : World) (o0 o1 o2 o3 o4 : Obj) : ∃ W, ((((w.alloc o0).alloc o1).alloc o2).alloc o3).alloc o4 = W ∧ w.grownBy W none ∧ W.heap.size = w.heap.size + 5 ∧ W.heap[w.heap.size]? = some o0 ∧ W.heap[w.heap.size + 1]? = some o1 ∧ W.heap[w.heap.size + 2]? = some o2 ∧ W.heap[w.heap.size + 3]? = some o3 ∧ W.heap[w.heap.size + 4]? = some o4 := by
  refine ⟨_, rfl, gn_alloc (gn_alloc (gn_alloc (gn_alloc (grown_alloc w _) _) _) _) _, ?_, ?_, ?_, ?_, ?_, ?_⟩
  · simp only [World.size_alloc]
  · exact keep1 _ _ (keep1 _ _ (keep1 _ _ (keep1 _ _ (heap_alloc_new w o0))))
  · have := heap_alloc_new (w.alloc o0) o1; rw [World.size_alloc] at this; exact keep1 _ _ (keep1 _ _ (keep1 _ _ this))
  · have := heap_alloc_new ((w.alloc o0).alloc o1) o2; rw [World.size_alloc, World.size_alloc] at this; exact keep1 _ _ (keep1 _ _ this)
  · have := heap_alloc_new (((w.alloc o0).alloc o1).alloc o2) o3; rw [World.size_alloc, World.size_alloc, World.size_alloc] at this; exact keep1 _ _ this
  · have := heap_alloc_new ((((w.alloc o0).alloc o1).alloc o2).alloc o3) o4; rw [World.size_alloc, World.size_alloc, World.size_alloc, World.size_alloc] at this; exact this
/-- Inside Find, between two states. -/
structure FiI (w6 W : World) (g : Nat → Bool) (fr : Int) (pre : List (Nat × Bp)) (O : Nat → Prop) : Prop where
  gr : w6.grownBy W none
  no : ∀ i, O i → w6.heap.size ≤ i
  ne : ∀ j, j < pre.length → ¬ (fr ≤ (j : Int) ∧ g j = true)
theorem kept_grown {w6 A B : World} {O : Nat → Prop} (h : w6.grownBy A none) (k : Kept A B O) (hO : ∀ i, O i → w6.heap.size ≤ i) : w6.grownBy B none :=
  ((Kept.new h (fun i => w6.heap.size ≤ i)).trans k (fun i _ e => hO i e)).grown (fun i hi e => by omega)
theorem own_from {w6 A : World} {O O' : Nat → Prop} (h : w6.grownBy A none) (hO : ∀ i, O i → w6.heap.size ≤ i) (hOO : ∀ i, O' i → O i ∨ A.heap.size ≤ i) : ∀ i, O' i → w6.heap.size ≤ i := fun i hi => by
  rcases hOO i hi with e | e
  · exact hO i e
  · exact Nat.le_trans h.size e
theorem FiI.goes (w6 : World) (g : Nat → Bool) (fr : Int) : Goes (fun pre O W => FiI w6 W g fr pre O) := fun _ _ _ _ _ h k hOO => ⟨kept_grown h.gr k h.no, own_from h.gr h.no hOO, h.ne⟩
/-- Behind one that was found. -/
structure FiX (w w6 W : World) (B3 B4 : Nat) (g : Nat → Bool) (fr : Int) (n : Nat) (c : Code) (O : Nat → Prop) : Prop where
  cd : c = .ret
  fd : ∃ k, fiR g fr n = some k ∧ W.heap[B3]? = some (.cells [Value.int .i64 (k : Int)].toArray 3 (0, 0)) ∧ W.heap[B4]? = some (.cells [Value.bool true].toArray 4 (0, 0))
  gr : w.grownBy W none
  no : ∀ i, O i → w6.heap.size ≤ i
  sz : w6.heap.size ≤ W.heap.size
theorem FiX.goes {w w6 : World} {B3 B4 : Nat} {g : Nat → Bool} {fr : Int} {n : Nat} (h3 : B3 < w6.heap.size) (h4 : B4 < w6.heap.size) (hw : w.heap.size ≤ w6.heap.size) (c : Code) : Goes (fun (_ : List (Nat × Bp)) O W => FiX w w6 W B3 B4 g fr n c O) := fun _ O O' A B h k hOO => by
  obtain ⟨j, e, e1, e2⟩ := h.fd
  refine ⟨h.cd, ⟨j, e, k.at e1 (fun x => by have := h.no _ x; omega), k.at e2 (fun x => by have := h.no _ x; omega)⟩, kept_grown h.gr k (fun i hi => Nat.le_trans hw (h.no i hi)), fun i hi => ?_, Nat.le_trans h.sz k.size⟩
  rcases hOO i hi with e | e
  · exact h.no i e
  · exact Nat.le_trans h.sz e
set_option maxRecDepth 100000 in
set_option maxHeartbeats 16000000 in
theorem rfind_any {w : World} {a b c : Nat} (ho : Gx.OkS a b c) {ao : Option Addr} {cap : Nat} {rs : List Rc} (hR : RecsAt w ao rs) (hO : ∀ r ∈ rs, r.Ok) (hl : rs.length ≤ 10000) (hT : Rk.Tab w) (fr : Int) (bv : Option Addr) (g : Nat → Bool)
    (hS : ∀ W k p, w.grownBy W none → k ≤ rn (nS a b c) rs → BkAt W p (fo (nS a b c) rs k) 4096 → Calls Tryz.prog 34 #[.pointer (some ⟨p.b, 0, none⟩), .pointer bv] W fun e w' => e = .returned (.bool (g k)) ∧ W.grownBy w' none) :
    Calls Tryz.prog 11 #[limV a b c, .slice ao rs.length cap, .int .i64 fr, .pointer bv] w fun e w' => e = .returned (fiV (fiR g fr (rn (nS a b c) rs))) ∧ w.grownBy w' none := by
  obtain ⟨w5, hw5, g5, z5, b0, b1, b2, b3, b4⟩ := boxes5 w (.cells #[.int .i64 (a : Int), .int .i64 (b : Int), .int .i64 (c : Int)] 23) (.cells #[.int .i64 fr] 3) (.cells #[.pointer bv] 27) (.cells #[.int .i64 0] 3) (.cells #[.bool false] 4)
  have HSt := hide (states_any (a := (a : Int)) (b := (b : Int)) (c := (c : Int)) (cap := cap) (hR.grown g5) hO hl (hT.new g5))
  have HS := hide hS
  have HW5 := hide hw5
  have c0 := Ge.cell3 b0
  have HG5 := hide (And.intro g5 (And.intro b1 (And.intro b2 (And.intro b3 b4))))
  have s0 := c0 0
  have s1 := c0 1
  have s2 := c0 2
  simp only [Ge.getElem?_v0, Ge.getElem?_v1, Ge.getElem?_v2] at s0 s1 s2
  clear hR hO hT hS hw5 b0 b1 b2 b3 b4 g5 c0
  unfold limV
  refine (callsIn_wide (n := 6)).1 (callsIn_of_wp_marks Tryz.func11 rfl trivial ?_ rfl)
  simp only [Tryz.ntmps11, List.size_toArray, List.length_cons, List.length_nil, Nat.reduceAdd, Nat.reduceSub, Array.replicate_succ, Array.replicate_zero, List.push_toArray, List.append_toArray, List.nil_append, List.cons_append]
  refine wpIn_wide.2 ?_
  have HSt2 := HSt
  rw [← HW5.out] at HSt
  go_wp2_with fail
  refine HSt.out.mono ?_
  rw [HW5.out]
  rintro e w6 ⟨v, rfl, ⟨Bs, Bl, so, cap', rfl, hI, hB⟩, g6⟩
  clear HSt HSt2 s0 s1 s2
  have z6 := g6.size
  have k1 : w6.heap[w.heap.size + 1]? = some (.cells [Value.int .i64 fr].toArray 3 (0, 0)) := (g6.block _ (row_lt HG5.out.2.1) (by simp)).trans HG5.out.2.1
  have k2 : w6.heap[w.heap.size + 2]? = some (.cells [Value.pointer bv].toArray 27 (0, 0)) := (g6.block _ (row_lt HG5.out.2.2.1) (by simp)).trans HG5.out.2.2.1
  have k3 : w6.heap[w.heap.size + 3]? = some (.cells [Value.int .i64 0].toArray 3 (0, 0)) := (g6.block _ (row_lt HG5.out.2.2.2.1) (by simp)).trans HG5.out.2.2.2.1
  have k4 : w6.heap[w.heap.size + 4]? = some (.cells [Value.bool false].toArray 4 (0, 0)) := (g6.block _ (row_lt HG5.out.2.2.2.2) (by simp)).trans HG5.out.2.2.2.2
  have gw6 := grown_trans HG5.out.1 g6
  have HK := hide (And.intro k1 (And.intro k2 (And.intro k3 (And.intro k4 gw6))))
  have HI := hide (And.intro hI hB)
  have hz6 : w.heap.size + 5 ≤ w6.heap.size := by omega
  clear k1 k2 k3 k4 gw6 hI hB g6 HG5 HW5
  go_wp2
  refine (wpIn_wide (n := 6)).1 (wpIn_range_F (w := w6) rfl (by decide) (gf := 41) (lb := #[.pointer (some ⟨Bs, 0, none⟩), .pointer (some ⟨Bl, 0, none⟩)]) rfl trivial (enters_of Tryz.func41 (by kernel_rfl) rfl)
    (encs := encS) (R := stR Bs Bl so rs.length) (E := fun x => x.2.own) (V := StV (nS a b c) rs) (S := fun xs => xs.length = rn (nS a b c) rs + 1)
    HI.out.1.lt (fun W hW => st_seq 5 (by decide) Bs Bl a b c ho so cap' rs W (HI.out.1.grown hW)) (fun _ => rfl) (fun pre x A B h k => StV.keep h k)
    (fun pre O W => FiI w6 W g fr pre O) (fun cd _ O W => FiX w w6 W (w.heap.size + 3) (w.heap.size + 4) g fr (rn (nS a b c) rs) cd O)
    (FiI.goes w6 g fr) (fun c => FiX.goes (by omega) (by omega) (by omega) c) ⟨grown_refl _ _, fun _ e => e.elim, fun j hj => by simp at hj⟩
    ?fr ?assign ?body ?done ?stop)
  case assign =>
    intro l x W K hK
    simp only [encS]
    gi_wp2
    exact hK
  case body =>
    rintro l pre x O W hI hV hsz hE hO
    have gW := grown_trans HK.out.2.2.2.2 hI.gr
    have hc1 : W.cell? ⟨w.heap.size + 1, 0, none⟩ = some (.int .i64 fr) := by have := cell_row ((hI.gr.block _ (row_lt HK.out.1) (by simp)).trans HK.out.1) 0; simpa using this
    have hc2 : W.cell? ⟨w.heap.size + 1 + 1, 0, none⟩ = some (.pointer bv) := by have := cell_row ((hI.gr.block _ (row_lt HK.out.2.1) (by simp)).trans HK.out.2.1) 0; simpa using this
    have b3 : W.heap[w.heap.size + 3]? = some (.cells [Value.int .i64 0].toArray 3 (0, 0)) := (hI.gr.block _ (row_lt HK.out.2.2.1) (by simp)).trans HK.out.2.2.1
    have b4 : W.heap[w.heap.size + 4]? = some (.cells [Value.bool false].toArray 4 (0, 0)) := (hI.gr.block _ (row_lt HK.out.2.2.2.1) (by simp)).trans HK.out.2.2.2.1
    have HC := hide (HS.out W x.1 x.2 gW hV.2.1 hV.2.2)
    have hx : x.1 = pre.length := hV.1
    have hxn := hV.2.1
    obtain ⟨PQ, hPQ⟩ : ∃ PQ, PQ = postW (fun i => O i ∨ stR Bs Bl so rs.length i) O (fun pre O W => FiI w6 W g fr pre O) (fun cd _ O W => FiX w w6 W (w.heap.size + 3) (w.heap.size + 4) g fr (rn (nS a b c) rs) cd O) (pre ++ [x]) W := ⟨_, rfl⟩
    rw [← hPQ]
    have HPn : Hid (∀ (a' : Act) (W' : World), W.grownBy W' none → ¬ (fr ≤ (x.1 : Int) ∧ g x.1 = true) → PQ .normal a' W') := by
      intro a' W' h1 h2
      rw [hPQ]
      refine ⟨Kept.new h1 _, grown_trans hI.gr h1, hI.no, fun j hj => ?_⟩
      rw [List.length_append] at hj
      by_cases hjp : j < pre.length
      · exact hI.ne j hjp
      · obtain rfl : j = x.1 := by simp at hj; omega
        exact h2
    have HPr : Hid (∀ (a' : Act) (W' : World), W.grownBy W' none → fr ≤ (x.1 : Int) → g x.1 = true → PQ .ret a' ((W'.setCell ⟨w.heap.size + 1 + 1 + 1, 0, none⟩ (.int .i64 (x.1 : Int))).setCell ⟨w.heap.size + 1 + 1 + 1 + 1, 0, none⟩ (.bool true))) := by
      intro a' W' h1 h2 h3
      rw [hPQ]
      have b3' := (h1.block _ (row_lt b3) (by simp)).trans b3
      have b4' := (h1.block _ (row_lt b4) (by simp)).trans b4
      have ks1 := kept_setCell W' (w.heap.size + 3) 0 (.int .i64 (x.1 : Int))
      have ks2 := kept_setCell (W'.setCell ⟨w.heap.size + 3, 0, none⟩ (.int .i64 (x.1 : Int))) (w.heap.size + 4) 0 (.bool true)
      have hno : ∀ i, (i = w.heap.size + 3 ∨ i = w.heap.size + 4) → ¬ (O i ∨ stR Bs Bl so rs.length i) := by
        rintro i hi (e | e)
        · have := (hO i e).1; omega
        · rcases HI.out.2 i e with e | e <;> omega
      have kk : Kept W ((W'.setCell ⟨w.heap.size + 3, 0, none⟩ (.int .i64 (x.1 : Int))).setCell ⟨w.heap.size + 4, 0, none⟩ (.bool true)) (fun i => i = w.heap.size + 3 ∨ i = w.heap.size + 4) := ((Kept.new h1 _).trans ks1 (fun i _ e => .inl e)).trans ks2 (fun i _ e => .inr e)
      refine ⟨kk.mono (fun i _ e => hno i e), rfl, ⟨x.1, fiR_some hxn h2 h3 (fun j hj => hI.ne j (by omega)), ?_, ?_⟩, ?_, hI.no, ?_⟩
      · have := row_setCell b3' 0 (.int .i64 (x.1 : Int))
        exact ks2.at (by simpa using this) (by omega)
      · have := row_setCell (ks1.at b4' (by omega)) 0 (.bool true)
        simpa using this
      · exact kept_grown gW kk (fun i e => by omega)
      · exact Nat.le_trans hI.gr.size kk.size
    have hc3 : ∀ W', W.grownBy W' none → W'.cell? ⟨w.heap.size + 1 + 1 + 1, 0, none⟩ = some (.int .i64 0) ∧ W'.frozen? ⟨w.heap.size + 1 + 1 + 1, 0, none⟩ = false ∧ W'.cell? ⟨w.heap.size + 1 + 1 + 1 + 1, 0, none⟩ = some (.bool false) ∧ W'.frozen? ⟨w.heap.size + 1 + 1 + 1 + 1, 0, none⟩ = false := by
      intro W' h1
      have b3' := (h1.block _ (row_lt b3) (by simp)).trans b3
      have b4' := (h1.block _ (row_lt b4) (by simp)).trans b4
      refine ⟨?_, free_row b3' 0, ?_, free_row b4' 0⟩
      · have := cell_row b3' 0; simpa using this
      · have := cell_row b4' 0; simpa using this
    have HC3 := hide hc3
    clear hc3 hPQ hV hI hE hO b3 b4 gW hx hxn hsz
    generalize hk : x.1 = k at *
    generalize hq : x.2.b = xb at *
    clear hk hq
    by_cases hfr : fr ≤ (k : Int)
    · gi_wp2_with fail
      refine ⟨trivial, ?_⟩
      refine (CallsIn.inRound l (callsIn_wide.2 HC.out)).mono ?_
      rintro e w7 ⟨rfl, g7⟩
      obtain ⟨d1, d2, d3, d4⟩ := HC3.out w7 g7
      cases hg : g k with
      | true =>
        have HF := hide (fun a' => HPr.out a' w7 g7 hfr hg)
        clear HPr HPn g7 hg HC
        gi_wp2
        exact HF.out _
      | false =>
        have HF := hide (fun a' => HPn.out a' w7 g7 (fun e => by rw [hg] at e; exact absurd e.2 (by decide)))
        clear HPr HPn g7 hg HC
        gi_wp2
        exact HF.out _
    · have HF := hide (fun a' => HPn.out a' W (grown_refl _ _) (fun e => hfr e.1))
      clear HPr HPn HC
      gi_wp2
      refine ⟨trivial, ?_⟩
      gi_wp2
      exact HF.out _
  case done =>
    rintro D xs O W hD hS hI hOD hK
    have hR : fiR g fr (rn (nS a b c) rs) = none := fiR_none (fun j hj => hI.ne j (by omega))
    have b3 : W.heap[w.heap.size + 1 + 1 + 1]? = some (.cells [Value.int .i64 0].toArray 3 (0, 0)) := (hI.gr.block _ (row_lt HK.out.2.2.1) (by simp)).trans HK.out.2.2.1
    have b4 : W.heap[w.heap.size + 1 + 1 + 1 + 1]? = some (.cells [Value.bool false].toArray 4 (0, 0)) := (hI.gr.block _ (row_lt HK.out.2.2.2.1) (by simp)).trans HK.out.2.2.2.1
    have c3 : W.cell? ⟨w.heap.size + 1 + 1 + 1, 0, none⟩ = some (.int .i64 0) := by have := cell_row b3 0; simpa using this
    have f3 := free_row b3 0
    have c4 : W.cell? ⟨w.heap.size + 1 + 1 + 1 + 1, 0, none⟩ = some (.bool false) := by have := cell_row b4 0; simpa using this
    have f4 := free_row b4 0
    have ks1 := kept_setCell W (w.heap.size + 1 + 1 + 1) 0 (.int .i64 0)
    have ks2 := kept_setCell (W.setCell ⟨w.heap.size + 1 + 1 + 1, 0, none⟩ (.int .i64 0)) (w.heap.size + 1 + 1 + 1 + 1) 0 (.bool false)
    have kk : Kept W ((W.setCell ⟨w.heap.size + 1 + 1 + 1, 0, none⟩ (.int .i64 0)).setCell ⟨w.heap.size + 1 + 1 + 1 + 1, 0, none⟩ (.bool false)) (fun i => i = w.heap.size + 3 ∨ i = w.heap.size + 4) := ((Kept.refl W _).trans ks1 (fun i _ e => .inl e)).trans ks2 (fun i _ e => .inr e)
    have e3 := ks2.at (row_setCell b3 0 (.int .i64 0)) (by omega)
    have e4 := row_setCell (ks1.at b4 (by omega)) 0 (.bool false)
    have hK2 := kk.at hK (by omega)
    have HX := hide (And.intro hR (And.intro (kept_grown (grown_trans HK.out.2.2.2.2 hI.gr) kk (fun i e => by omega)) (And.intro hK2 (And.intro e3 e4))))
    clear hR b3 b4 ks1 ks2 kk e3 e4 hK2 hI hK hOD HS HK
    go_wp2
    obtain ⟨hR, x1, x2, x3, x4⟩ := HX.out
    refine ⟨by simp, .inl ⟨_, _, rfl, run_takeDeferred x2, ?_⟩⟩
    have kp := Kept.of (grownBy_putObj' ((W.setCell ⟨w.heap.size + 1 + 1 + 1, 0, none⟩ (.int .i64 0)).setCell ⟨w.heap.size + 1 + 1 + 1 + 1, 0, none⟩ (.bool false)) D (.deferred none)) (S := fun i => i = D) (fun j e _ => (Option.some.inj e).symm)
    have y3 := cell_row (kp.at x3 (by omega)) 0
    have y4 := cell_row (kp.at x4 (by omega)) 0
    refine ⟨_, results_find _ _ (w.heap.size + 1 + 1 + 1) (w.heap.size + 1 + 1 + 1 + 1) (.int .i64 0) (.bool false) rfl rfl (by simpa using y3) (by simpa using y4), ?_, ?_⟩
    · rw [hR]; rfl
    · exact kept_grown x1 kp (fun i e => by omega)
  case stop =>
    rintro D cd pre O W hD hX hOD hK
    obtain ⟨rfl, ⟨k, e, b3, b4⟩, gr, -, -⟩ := hX
    have HX := hide (And.intro e (And.intro gr (And.intro hK (And.intro b3 b4))))
    clear e b3 b4 gr hOD hK HS HK
    refine wpIn_wide.2 ?_
    go_wp2
    obtain ⟨hR, x1, x2, x3, x4⟩ := HX.out
    refine ⟨by simp, .inl ⟨_, _, rfl, run_takeDeferred x2, ?_⟩⟩
    have kp := Kept.of (grownBy_putObj' W D (.deferred none)) (S := fun i => i = D) (fun j e _ => (Option.some.inj e).symm)
    have y3 := cell_row (kp.at x3 (by omega)) 0
    have y4 := cell_row (kp.at x4 (by omega)) 0
    refine ⟨_, results_find _ _ (w.heap.size + 1 + 1 + 1) (w.heap.size + 1 + 1 + 1 + 1) (.int .i64 (k : Int)) (.bool true) rfl rfl (by simpa using y3) (by simpa using y4), ?_, ?_⟩
    · rw [hR]; rfl
    · exact kept_grown x1 kp (fun i e => by omega)
end Go.Proofs.YtinkkocleognbaaGreatDoor
namespace Go.Proofs.YtinkkocleognbaaGreatDoor
/- Books that aren't there; shapes that may not be. -/
open Go.RowKit Go.Shelf
attribute [local go_sem ↓] Go.wp_at_zero Go.wp_at_succ
attribute [local go_sem] Oper.semAt_some
/-- No book, whatever is made behind. -/
def NoB (w : World) (v : Value) : Prop := ∀ W, w.grownBy W none → Calls Tryz.prog 64 #[v] W fun e w' => e = .returned (.bool true) ∧ w' = W
theorem NoB.then {w w' : World} {v : Value} (h : NoB w v) (g : w.grownBy w' none) : NoB w' v := fun W k => h W (grown_trans g k)
theorem noB_nil (w : World) : NoB w (.pointer none) := by
  intro W _
  go_enter Tryz.func64, Tryz.ntmps64
  go_wp2
  go_ret
  exact ⟨rfl, rfl⟩
theorem neqNil27 (w : World) (X : Nat) : (binOp .neq 27 (.pointer none) (.pointer (some ⟨X, 0, none⟩))).run Tryz.prog w = .ok (.bool true) w := by kernel_rfl
set_option maxRecDepth 20000 in
theorem noB_zero {w : World} {X : Nat} (h : w.cell? ⟨X, 3, none⟩ = some (.pointer none)) : NoB w (.pointer (some ⟨X, 0, none⟩)) := by
  intro W g
  have c3 := g.cell h (by simp)
  have hq := fun w => neqNil27 w X
  clear h g
  go_enter Tryz.func64, Tryz.ntmps64
  go_wp2
  go_ret
  exact ⟨rfl, rfl⟩
section
variable {w : World} {v : Value}
set_option maxHeartbeats 4000000 in
theorem no_same2 {p : Bp} {S : Sb} {K : Nat} (hp : BkAt w p S K) (h : NoB w v) : Calls Tryz.prog 34 #[.pointer (some ⟨p.b, 0, none⟩), v] w fun e w' => e = .returned (.bool false) ∧ w' = w := by
  have HC0 := hide hp.isNone
  have HC := hide (h _ (grown_refl _ _))
  clear h hp
  go_enter Tryz.func34, Tryz.ntmps34
  go_wp2_with fail
  refine HC0.out.mono ?_
  rintro e w1 ⟨rfl, rfl⟩
  go_wp2_with fail
  refine HC.out.mono ?_
  rintro e w1 ⟨rfl, rfl⟩
  go_wp2
  go_ret
  exact ⟨rfl, rfl⟩
set_option maxHeartbeats 4000000 in
theorem no_shape (h : NoB w v) : Calls Tryz.prog 44 #[v] w fun e w' => e = .returned (.agg #[.int .i64 0, .int .i64 0, .int .i64 0]) ∧ w.grownBy w' none := by
  have HC := hide (h _ (grown_alloc w (.cells [.int .i64 0, .int .i64 0, .int .i64 0].toArray 23)))
  have HB := hide (heap_alloc_new w (.cells [.int .i64 0, .int .i64 0, .int .i64 0].toArray 23))
  clear h
  obtain ⟨d0, d1, d2, d3⟩ := box3 HB.out
  go_enter Tryz.func44, Tryz.ntmps44
  go_wp2_with fail
  refine HC.out.mono ?_
  rintro e w1 ⟨rfl, rfl⟩
  go_wp2
  obtain ⟨r1, r2⟩ := row3 _ HB.out (.int .i64 0) (.int .i64 0) (.int .i64 0)
  first
    | exact bodyPost_ret (results_cell_row rfl _ _ w.heap.size 23 #[.int .i64 0, .int .i64 0, .int .i64 0] (0, 0) _ rfl r1 Tryz.underlying23 rfl (by kernel_rfl)) rfl ⟨rfl, gn_set (gn_set (gn_set (grown_alloc _ _) (Nat.le_refl _)) (Nat.le_refl _)) (Nat.le_refl _)⟩
    | exact bodyPost_ret (results_cell_row rfl _ _ w.heap.size 23 #[.int .i64 0, .int .i64 0, .int .i64 0] (0, 0) _ rfl HB.out Tryz.underlying23 rfl (by kernel_rfl)) rfl ⟨rfl, grown_alloc _ _⟩
end

set_option maxHeartbeats 4000000 in
theorem isNone_yes {w : World} {v : Value} (h : NoB w v) : Calls Tryz.prog 36 #[v] w fun e w' => e = .returned (.bool true) ∧ w.grownBy w' none := by
  have HC := hide (no_shape h)
  clear h
  go_enter Tryz.func36, Tryz.ntmps36
  go_wp2_with fail
  refine HC.out.mono ?_
  rintro e w1 ⟨rfl, g1⟩
  have HG := hide g1
  clear g1
  go_wp2
  go_ret
  exact ⟨rfl, HG.out⟩
set_option maxHeartbeats 4000000 in
theorem isNone_no {w : World} {p : Bp} {S : Sb} {K : Nat} (h : BkAt w p S K) (ha : 1 ≤ S.a) : Calls Tryz.prog 36 #[.pointer (some ⟨p.b, 0, none⟩)] w fun e w' => e = .returned (.bool false) ∧ w.grownBy w' none := by
  have HC := hide (shape_any h)
  have f0 : ((S.a : Int) == 0) = false := by simp; omega
  have f1 : decide ((S.a : Int) = 0) = false := by simp; omega
  clear h
  unfold limV at HC
  generalize (S.a : Int) = a at *
  generalize (S.b : Int) = b at *
  generalize (S.c : Int) = c at *
  go_enter Tryz.func36, Tryz.ntmps36
  go_wp2_with fail
  refine HC.out.mono ?_
  rintro e w1 ⟨rfl, g1⟩
  have HG := hide g1
  clear g1 HC
  go_wp2
  go_ret
  exact ⟨rfl, HG.out⟩
set_option maxHeartbeats 4000000 in
theorem of_no {w : World} {a b c : Int} (h : ¬ Gx.OkS a b c) (v : Value) : Calls Tryz.prog 10 #[.agg #[.int .i64 a, .int .i64 b, .int .i64 c], v] w fun e w' => e = .returned (.tuple #[.pointer none, .int .i64 0, .int .i64 90]) ∧ w.grownBy w' none := by
  have HN := hide (new_no a b c h (w.alloc (.cells #[.int .i64 a, .int .i64 b, .int .i64 c] 23)))
  clear h
  go_enter Tryz.func10, Tryz.ntmps10
  go_wp2_with fail
  refine HN.out.mono ?_
  rintro e w1 ⟨rfl, g1⟩
  have HG := hide (grown_trans (grown_alloc _ _) g1)
  clear g1
  go_wp2
  go_ret3
  exact ⟨rfl, HG.out⟩
set_option maxRecDepth 100000 in
set_option maxHeartbeats 4000000 in
theorem st_bad (n : Nat) (hn : 1 ≤ n) (Bs Bl : Nat) (a b c : Int) (h : ¬ Gx.OkS a b c) (so : Option Addr) (cap : Nat) (rs : List Rc) (W : World) (hI : StI W Bs Bl a b c so cap rs) :
    SeqW Fence.wide n Tryz.prog 41 #[.pointer (some ⟨Bs, 0, none⟩), .pointer (some ⟨Bl, 0, none⟩)] encS (stR Bs Bl so rs.length) (fun x => x.2.own) (fun _ _ _ => False) (fun xs => xs = []) W := by
  intro l J Jx hJ _ _ h0
  show CallsIn Fence.wide n Tryz.prog 41 #[.func (.yield l) #[] #[], .pointer (some ⟨Bs, 0, none⟩), .pointer (some ⟨Bl, 0, none⟩)] W _
  refine callsIn_of_wp Tryz.func41 rfl trivial ?_ rfl
  simp only [Tryz.ntmps41, List.size_toArray, List.length_cons, List.length_nil, Nat.reduceAdd, Nat.reduceSub, Array.replicate_succ, Array.replicate_zero, List.push_toArray, List.append_toArray, List.nil_append, List.cons_append]
  have HN := hide (new_no a b c h W)
  have s0 := cell_row hI.bs 0
  have s1 := cell_row hI.bs 1
  have s2 := cell_row hI.bs 2
  simp at s0 s1 s2
  clear hI h
  gi_wp2_with fail
  refine ⟨trivial, ?_⟩
  refine (callsIn_wide.2 HN.out).mono ?_
  rintro e w1 ⟨rfl, g1⟩
  have HF := hide (hJ [] _ (fun _ => False) _ _ h0 (Kept.new g1 _) (fun i hi => .inl hi))
  clear g1 HN s0 s1 s2 h0 hJ
  gi_wp2
  gi_loopw [5, 6] (fun q5 _ wr => q5 = .int .i64 90 ∧ Hid (J [] (fun _ => False) wr)) (fun _ _ _ => 0)
  case atStart => exact ⟨rfl, HF.out⟩
  case round =>
    clear HF
    obtain ⟨rfl, HF⟩ := hrel
    gi_wp2
    go_end0
    exact ⟨⟨_, rfl⟩, .inl ⟨_, _, rfl, HF.out⟩⟩
end Go.Proofs.YtinkkocleognbaaGreatDoor
namespace Go.Proofs.YtinkkocleognbaaGreatDoor
/- A history whose third record can't be applied; Run of no book. -/
open Go.RowKit Go.Shelf
attribute [local go_sem ↓] Go.wp_at_zero Go.wp_at_succ
attribute [local go_sem] Oper.semAt_some
theorem recs_row {w : World} {B : Nat} {rs : List Rc} (h : w.heap[B]? = some (.cells (rcs rs).toArray 47 (0, 0))) : RecsAt w (some ⟨B, 0, none⟩) rs := by
  intro j r hj
  have key : ∀ o u, o < 5 → (rcc r)[o]? = some u → w.cell? ⟨B, 0 + j * 5 + o, none⟩ = some u := fun o u ho hu => by
    rw [Nat.zero_add, cell_row h]
    exact (rcs_at hj ho).trans hu
  exact ⟨B, 0, rfl, key 0 _ (by decide) rfl, key 1 _ (by decide) rfl, key 2 _ (by decide) rfl, key 3 _ (by decide) rfl, key 4 _ (by decide) rfl⟩
/-- The states of a history, as Find sees them. -/
theorem find_hs {w w2 : World} {a b c d : Nat} (ho : Gx.OkS a b c) {rs : List Rc} {S' : Sb} {K : Nat} {p' : Bp} {Bs : List (Nat × List Value × TypeId)} (h : Lk w w2 d S' K p' Bs) (hw : S'.Wk) (ha : S'.a = a) (hb : S'.b = b) : ∀ W k p, w2.grownBy W none → k ≤ rn (nS a b c) rs → BkAt W p (fo (nS a b c) rs k) 4096 → Calls Tryz.prog 34 #[.pointer (some ⟨p.b, 0, none⟩), .pointer (some ⟨d, 0, none⟩)] W fun e w' => e = .returned (.bool (sameS (fo (nS a b c) rs k) S')) ∧ W.grownBy w' none := by
  intro W k p hW _ hp
  have := same_any hp (h.bk.then hW) (fo_ok (nS_ok ho) rs k).wk hw (by rw [(fo_abc _ rs k).1]; exact ha) (by rw [(fo_abc _ rs k).2.1]; exact hb)
  rw [h.eb] at this
  exact this
def awR : List Rc := [⟨1, 1, 0, 5, 0⟩, ⟨2, 1, 0, 0, 0⟩, ⟨1, 2, 0, 5, 0⟩]
theorem aw1 : rn (nS 2 2 1) awR = 2 := by decide
theorem aw2 : rE (nS 2 2 1) awR = 170 := by decide
theorem aw3 : (fo (nS 2 2 1) awR 2).L.length = 1 := by decide
theorem aw4 : fiR (fun k => sameS (fo (nS 2 2 1) awR k) (fo (nS 2 2 1) awR 2)) 0 2 = some 2 := by decide
theorem aw5 : ∀ r ∈ awR, r.Ok := by
  intro r hr
  simp only [awR, List.mem_cons, List.not_mem_nil, or_false] at hr
  rcases hr with rfl | rfl | rfl <;> constructor <;> decide
set_option maxRecDepth 20000 in
set_option maxHeartbeats 8000000 in
theorem awake_any (w : World) (hT : Rk.Tab w) : Calls Tryz.prog 13 #[] w fun e w' => e = .returned (.bool true) ∧ w.grownBy w' none := by
  have hos : Gx.OkS ((2 : Nat) : Int) ((2 : Nat) : Int) ((1 : Nat) : Int) := by decide
  obtain ⟨w1, hw1⟩ : ∃ w1, w.alloc (.cells (rcs awR).toArray 47) = w1 := ⟨_, rfl⟩
  have g1 : w.grownBy w1 none := by rw [← hw1]; exact grown_alloc _ _
  have hr : RecsAt w1 (some ⟨w.heap.size, 0, none⟩) awR := recs_row (by rw [← hw1]; exact heap_alloc_new w _)
  have HO := hide (of_any (cap := 3) hos (rs := awR) (len := 3) rfl (by decide) hr aw5 (hT.new g1))
  rw [aw1, aw2] at HO
  have HX : Hid (∀ w2 d p, Lk w1 w2 d (fo (nS 2 2 1) awR 2) 10000 p [] → (Calls Tryz.prog 43 #[.pointer (some ⟨d, 0, none⟩)] w2 fun e w' => e = .returned (.int .i64 1) ∧ w' = w2) ∧ (Calls Tryz.prog 44 #[.pointer (some ⟨d, 0, none⟩)] w2 fun e w' => e = .returned (.agg #[.int .i64 2, .int .i64 2, .int .i64 1]) ∧ w2.grownBy w' none) ∧ w.grownBy w2 none ∧ ∀ W, w2.grownBy W none → Calls Tryz.prog 11 #[.agg #[.int .i64 2, .int .i64 2, .int .i64 1], .slice (some ⟨w.heap.size, 0, none⟩) 3 3, .int .i64 0, .pointer (some ⟨d, 0, none⟩)] W fun e w' => e = .returned (.tuple #[.int .i64 2, .bool true]) ∧ W.grownBy w' none) := by
    intro w2 d p h
    refine ⟨?_, ?_, grown_trans g1 h.gr, fun W hW => ?_⟩
    · have := h.len
      rw [aw3] at this
      exact this
    · have := shape_any h.bk
      rw [h.eb] at this
      exact this
    · have h2 := h.then hW
      have := rfind_any (cap := 3) hos (rs := awR) (hr.grown h2.gr) aw5 (by decide) (((hT.new g1).new h2.gr)) 0 (some ⟨d, 0, none⟩) (fun k => sameS (fo (nS 2 2 1) awR k) (fo (nS 2 2 1) awR 2)) (find_hs hos h2 (fo_ok (nS_ok hos) awR 2).wk rfl rfl)
      rw [aw1, aw4] at this
      exact this
  unfold limV at HO
  have HW := hide hw1
  clear hr g1 hT hw1 hos
  rw [← HW.out] at HO HX
  unfold awR rcs at HO HX
  simp only [List.flatMap_cons, List.flatMap_nil, rcc, List.append_nil, List.cons_append, List.nil_append] at HO HX
  clear HW
  go_enter Tryz.func13, Tryz.ntmps13
  go_wp2_with fail
  refine HO.out.mono ?_
  rintro e w2 ⟨d, p, rfl, h2⟩
  obtain ⟨x1, x2, x3, x4⟩ := HX.out w2 d p h2
  have HL := hide x1
  have HS := hide x2
  have HG := hide x3
  have HF := hide x4
  clear x1 x2 x3 x4 h2 HX HO
  go_wp2_with fail
  refine HL.out.mono ?_
  rintro e w3 ⟨rfl, rfl⟩
  go_wp2_with fail
  refine HS.out.mono ?_
  rintro e w4 ⟨rfl, g4⟩
  have HF4 := hide (HF.out _ g4)
  have HG4 := hide (grown_trans HG.out g4)
  clear g4 HS HL HF
  go_wp2_with fail
  refine HF4.out.mono ?_
  rintro e w5 ⟨rfl, g5⟩
  have HG5 := hide (grown_trans HG4.out g5)
  clear g5 HF4
  go_wp2
  go_ret
  exact ⟨rfl, HG5.out⟩
set_option maxHeartbeats 4000000 in
theorem run_none {w : World} {v : Value} (h : NoB w v) (fs : Value) : Calls Tryz.prog 9 #[v, fs] w fun e w' => e = .returned (.tuple #[.int .i64 0, .int .i64 1]) ∧ w.grownBy w' none := by
  have HC := hide (isNone_yes h)
  clear h
  go_enter Tryz.func9, Tryz.ntmps9
  go_wp2_with fail
  refine HC.out.mono ?_
  rintro e w1 ⟨rfl, g1⟩
  have HG := hide g1
  clear g1
  go_wp2
  go_ret2
  exact ⟨rfl, HG.out⟩
end Go.Proofs.YtinkkocleognbaaGreatDoor
namespace Go.Proofs.YtinkkocleognbaaGreatDoor
/- ReplayNumbers, walked. -/
open Go.RowKit Go.Shelf
attribute [local go_sem ↓] Go.wp_at_zero Go.wp_at_succ
attribute [local go_sem] Oper.semAt_some
theorem results_b {fn : Func} {p : Tmp} (h : fn.results = #[.cell p 4]) (tmps : Array Value) (w : World) (g : Nat) (v : Value) (hp : tmps.getD p undef = .pointer (some ⟨g, 0, none⟩)) (hc : w.cell? ⟨g, 0, none⟩ = some v) :
    (results fn tmps).run Tryz.prog w = .ok v w := by
  have hp' : tmps[p]?.getD undef = .pointer (some ⟨g, 0, none⟩) := by simpa using hp
  simp [results, h, hp', asAddr]
  go_simp
theorem eqlNil52 (w : World) (f : Nat) (lb : Array Value) : (binOp .eql 52 (.func (.func f) #[] lb) .nilFunc).run Tryz.prog w = .ok (.bool false) w := by kernel_rfl
/-- Beside a range whose body keeps all that lay ahead of it. -/
structure GrI (w6 W : World) (O : Nat → Prop) : Prop where
  gr : w6.grownBy W none
  no : ∀ i, O i → w6.heap.size ≤ i
theorem GrI.goes (w6 : World) : Goes (fun (_ : List (Nat × Bp)) O W => GrI w6 W O) := fun _ _ _ _ _ h k hOO => ⟨kept_grown h.gr k h.no, own_from h.gr h.no hOO⟩
theorem nu1 : rn (nS 1 1 1) [zRc] = 0 := by decide
theorem nu2 : rE (nS 1 1 1) [zRc] = 160 := by decide
theorem nu3 : fiR (fun k => sameS (fo (nS 1 1 1) [] k) (nS 1 1 1)) (-5) 0 = some 0 := by decide
theorem nu4 : fiR (fun _ => false) 0 0 = none := by decide
set_option maxRecDepth 100000 in
set_option maxHeartbeats 16000000 in
theorem numbers_any (w : World) (hT : Rk.Tab w) : Calls Tryz.prog 3 #[] w fun e w' => e = .returned (.bool true) ∧ w.grownBy w' none := by
  have hos : Gx.OkS ((1 : Nat) : Int) ((1 : Nat) : Int) ((1 : Nat) : Int) := by decide
  have hq52 := eqlNil52
  obtain ⟨w2, hw2⟩ : ∃ w2, (w.alloc (.cells #[.bool false] 4)).alloc (.cells #[.int .i64 1, .int .i64 1, .int .i64 1] 23) = w2 := ⟨_, rfl⟩
  have g2 : w.grownBy w2 none := by rw [← hw2]; exact gn_alloc (grown_alloc w _) _
  have b0 : w2.heap[w.heap.size]? = some (.cells [Value.bool false].toArray 4 (0, 0)) := by rw [← hw2]; exact keep1 _ _ (heap_alloc_new w _)
  have b1 : w2.heap[w.heap.size + 1]? = some (.cells #[.int .i64 1, .int .i64 1, .int .i64 1] 23 (0, 0)) := by
    rw [← hw2]
    have := heap_alloc_new (w.alloc (.cells #[.bool false] 4)) (.cells #[.int .i64 1, .int .i64 1, .int .i64 1] 23)
    rw [World.size_alloc] at this
    exact this
  have z2 : w2.heap.size = w.heap.size + 2 := by rw [← hw2, World.size_alloc, World.size_alloc]
  have HSh : Hid (∀ W, w2.grownBy W none → W.cell? ⟨w.heap.size + 1, 0, none⟩ = some (.int .i64 1) ∧ W.cell? ⟨w.heap.size + 1, 1, none⟩ = some (.int .i64 1) ∧ W.cell? ⟨w.heap.size + 1, 2, none⟩ = some (.int .i64 1)) := by
    intro W hW
    have c := Ge.cell3 ((hW.block _ (row_lt b1) (by simp)).trans b1)
    have s0 := c 0
    have s1 := c 1
    have s2 := c 2
    simp only [Ge.getElem?_v0, Ge.getElem?_v1, Ge.getElem?_v2] at s0 s1 s2
    exact ⟨s0, s1, s2⟩
  have HT : Hid (∀ W, w2.grownBy W none → Rk.Tab W) := fun W hW => (hT.new g2).new hW
  have HFn : Hid (∀ W v, w2.grownBy W none → NoB W (.pointer v) → Calls Tryz.prog 11 #[.agg #[.int .i64 1, .int .i64 1, .int .i64 1], .slice none 0 0, .int .i64 0, .pointer v] W fun e w' => e = .returned (.tuple #[.int .i64 0, .bool false]) ∧ W.grownBy w' none) := by
    intro W v hW hv
    have := rfind_any (cap := 0) hos (rs := []) (RecsAt.nil W none) (fun r hr => by cases hr) (by decide) (HT.out W hW) 0 v (fun _ => false) (fun W' k p h1 h2 h3 => by
      refine (no_same2 h3 (hv.then h1)).mono ?_
      rintro e w' ⟨rfl, rfl⟩
      exact ⟨rfl, grown_refl _ _⟩)
    rw [show rn (nS 1 1 1) [] = 0 from rfl, nu4] at this
    exact this
  have HFc : Hid (∀ W d K p, w2.grownBy W none → Lk w2 W d (nS 1 1 1) K p [] → Calls Tryz.prog 11 #[.agg #[.int .i64 1, .int .i64 1, .int .i64 1], .slice none 0 0, .int .i64 (-5), .pointer (some ⟨d, 0, none⟩)] W fun e w' => e = .returned (.tuple #[.int .i64 0, .bool true]) ∧ W.grownBy w' none) := by
    intro W d K p hW hd
    have := rfind_any (cap := 0) hos (rs := []) (RecsAt.nil W none) (fun r hr => by cases hr) (by decide) (HT.out W hW) (-5) (some ⟨d, 0, none⟩) (fun k => sameS (fo (nS 1 1 1) [] k) (nS 1 1 1)) (find_hs hos hd (nS_ok hos).wk rfl rfl)
    rw [show rn (nS 1 1 1) [] = 0 from rfl, nu3] at this
    exact this
  have HOf : Hid (∀ W B, w2.grownBy W none → W.heap[B]? = some (.cells (rcs [zRc]).toArray 47 (0, 0)) → Calls Tryz.prog 10 #[.agg #[.int .i64 1, .int .i64 1, .int .i64 1], .slice (some ⟨B, 0, none⟩) 1 1] W fun e w' => ∃ d p, e = .returned (.tuple #[.pointer (some ⟨d, 0, none⟩), .int .i64 0, .int .i64 160]) ∧ Lk w2 w' d (nS 1 1 1) 10000 p [] ∧ W.grownBy w' none) := by
    intro W B hW hB
    have := of_any (cap := 1) hos (rs := [zRc]) (len := 1) rfl (by decide) (recs_row hB) (fun r hr => by simp at hr; subst hr; constructor <;> decide) (HT.out W hW)
    rw [nu1, nu2] at this
    refine this.mono ?_
    rintro e w' ⟨d, p, rfl, h⟩
    exact ⟨d, p, rfl, h.base hW, h.gr⟩
  have HSt : Hid (∀ W, w2.grownBy W none → Calls Tryz.prog 12 #[.agg #[.int .i64 0, .int .i64 0, .int .i64 0], .slice none 0 0] W fun e w' => ∃ v, e = .returned v ∧ StF w' W.heap.size v 0 0 0 [] ∧ W.grownBy w' none) := fun W hW => states_any (cap := 0) (RecsAt.nil W none) (fun r hr => by cases hr) (by decide) (HT.out W hW)
  have HAw : Hid (∀ W, w2.grownBy W none → Calls Tryz.prog 13 #[] W fun e w' => e = .returned (.bool true) ∧ W.grownBy w' none) := fun W hW => awake_any W (HT.out W hW)
  have HR2 : Hid (∀ W X fs, World.cell? W ⟨X, 3, none⟩ = some (.pointer none) → Calls Tryz.prog 9 #[.pointer (some ⟨X, 0, none⟩), fs] W fun e w' => e = .returned (.tuple #[.int .i64 0, .int .i64 1]) ∧ W.grownBy w' none) := fun W X fs h => run_none (noB_zero h) fs
  have HOn : Hid (∀ (W : World) v, Calls Tryz.prog 10 #[.agg #[.int .i64 0, .int .i64 0, .int .i64 0], v] W fun e w' => e = .returned (.tuple #[.pointer none, .int .i64 0, .int .i64 90]) ∧ W.grownBy w' none) := fun W v => of_no (by decide) v
  have HB0 := hide (And.intro b0 g2)
  have HW2 := hide hw2
  have HR1 := hide (run_none (noB_nil w2) (.slice none 0 0))
  clear b0 b1 g2 hT hw2 hos HT
  refine (callsIn_wide (n := 6)).1 (callsIn_of_wp_marks Tryz.func3 rfl trivial ?_ rfl)
  simp only [Tryz.ntmps3, List.size_toArray, List.length_nil, Nat.reduceSub, Array.replicate_succ, Array.replicate_zero, List.push_toArray, List.append_toArray, List.nil_append, List.cons_append]
  refine wpIn_wide.2 ?_
  rw [← HW2.out] at HR1
  go_wp2_with fail
  refine HR1.out.mono ?_
  rw [HW2.out]
  rintro e w3 ⟨rfl, g3⟩
  clear HR1 HW2
  have HG3 := hide g3
  clear g3
  go_wp2_with fail
  refine (HR2.out _ _ _ (cell_row (keep1 _ _ (heap_alloc_new _ _)) 3)).mono ?_
  rintro e w4 ⟨rfl, g4⟩
  have HG4 := hide (grown_trans (gn_alloc (gn_alloc HG3.out _) _) g4)
  clear g4 HG3
  go_wp2_with fail
  refine (HOn.out _ _).mono ?_
  rintro e w5 ⟨rfl, g5⟩
  have HG5 := hide (grown_trans (gn_alloc HG4.out _) g5)
  clear g5 HG4
  obtain ⟨s0, s1, s2⟩ := HSh.out w5 HG5.out
  go_wp2_with fail
  refine (HOf.out _ _ (gn_alloc HG5.out _) (heap_alloc_new w5 _)).mono ?_
  rintro e w6 ⟨d, p, rfl, hL, g6⟩
  have HG6 := hide (grown_trans (gn_alloc HG5.out _) g6)
  have HL := hide hL
  clear g6 HG5 hL s0 s1 s2
  obtain ⟨s0, s1, s2⟩ := HSh.out w6 HG6.out
  go_wp2_with fail
  refine (HFn.out _ _ HG6.out (noB_nil _)).mono ?_
  rintro e w7 ⟨rfl, g7⟩
  have HG7 := hide (grown_trans HG6.out g7)
  have HL7 := hide (HL.out.then g7)
  clear g7 HG6 HL s0 s1 s2
  obtain ⟨s0, s1, s2⟩ := HSh.out w7 HG7.out
  go_wp2_with fail
  refine (HFn.out _ _ (gn_alloc HG7.out _) (noB_zero (cell_row (heap_alloc_new _ _) 3))).mono ?_
  rintro e w8 ⟨rfl, g8⟩
  have HG8 := hide (grown_trans (gn_alloc HG7.out _) g8)
  have HL8 := hide (HL7.out.then (grown_trans (grown_alloc _ _) g8))
  clear g8 HG7 HL7 s0 s1 s2
  obtain ⟨s0, s1, s2⟩ := HSh.out w8 HG8.out
  go_wp2_with fail
  refine (HFc.out _ _ _ _ HG8.out HL8.out).mono ?_
  rintro e w9 ⟨rfl, g9⟩
  have HG9 := hide (grown_trans HG8.out g9)
  clear g9 HG8 HL8 s0 s1 s2 HFc HFn HOf HSh
  go_wp2_with fail
  refine (HSt.out _ HG9.out).mono ?_
  rintro e w10 ⟨v, rfl, ⟨Bs, Bl, so, cap', rfl, hI, hB⟩, g10⟩
  have HG10 := hide (grown_trans HG9.out g10)
  have HI := hide hI
  clear g10 HG9 hI hB HSt
  go_wp2
  refine (wpIn_wide (n := 6)).1 (wpIn_range_F (w := w10) rfl (by decide) (gf := 41) (lb := #[.pointer (some ⟨Bs, 0, none⟩), .pointer (some ⟨Bl, 0, none⟩)]) rfl trivial (enters_of Tryz.func41 (by kernel_rfl) rfl)
    (encs := encS) (R := stR Bs Bl so ([] : List Rc).length) (E := fun x => x.2.own) (V := fun _ _ _ => False) (S := fun xs => xs = [])
    HI.out.lt (fun W hW => st_bad 5 (by decide) Bs Bl 0 0 0 (by decide) so cap' [] W (HI.out.grown hW)) (fun _ => rfl) (fun pre x A B h k => h)
    (fun _ O W => GrI w10 W O) (fun _ _ _ _ => False)
    (GrI.goes w10) (fun _ _ _ _ _ _ h _ _ => h) ⟨grown_refl _ _, fun _ e => e.elim⟩
    ?fr ?assign ?body ?done ?stop)
  case assign =>
    intro l x W K hK
    simp only [encS]
    gi_wp2
    exact hK
  case body =>
    rintro l pre x O W hI hV
    exact hV.elim
  case stop =>
    rintro D cd pre O W hD hX
    exact hX.elim
  case done =>
    rintro D xs O W hD hS hI hOD hK
    have hg := grown_trans HG10.out hI.gr
    have HA := hide (HAw.out W hg)
    have HX := hide (And.intro hg (And.intro hK (And.intro hD (And.intro HI.out.lt HG10.out.size))))
    clear hg hI hK hOD HAw HI HG10 hD
    go_wp2_with fail
    refine HA.out.mono ?_
    rintro e w11 ⟨rfl, g11⟩
    have bb := ((grown_trans HX.out.1 g11).block _ (row_lt HB0.out.1) (by simp)).trans HB0.out.1
    have c0 : w11.cell? ⟨w.heap.size, 0, none⟩ = some (.bool false) := by have := cell_row bb 0; simpa using this
    have f0 := free_row bb 0
    have HY := hide (And.intro g11 bb)
    clear g11 bb HA
    go_wp2
    obtain ⟨hg, hK, hD, -, hsz⟩ := HX.out
    obtain ⟨g11, bb⟩ := HY.out
    have hz := (grown_trans HB0.out.2 (grown_trans hg g11))
    have hbl := row_lt HB0.out.1
    have ks := kept_setCell w11 w.heap.size 0 (.bool true)
    have hK2 := ks.at ((g11.block _ (row_lt hK) (by simp)).trans hK) (by omega)
    refine ⟨by simp, .inl ⟨_, _, rfl, run_takeDeferred hK2, ?_⟩⟩
    have kp := Kept.of (grownBy_putObj' (w11.setCell ⟨w.heap.size, 0, none⟩ (.bool true)) D (.deferred none)) (S := fun i => i = D) (fun j e _ => (Option.some.inj e).symm)
    have y := cell_row (kp.at (row_setCell bb 0 (.bool true)) (by omega)) 0
    refine ⟨_, results_b rfl _ _ w.heap.size (.bool true) rfl (by simpa using y), rfl, ?_⟩
    exact kept_grown (kept_grown hz ks (fun i e => by omega)) kp (fun i e => by omega)
end Go.Proofs.YtinkkocleognbaaGreatDoor
