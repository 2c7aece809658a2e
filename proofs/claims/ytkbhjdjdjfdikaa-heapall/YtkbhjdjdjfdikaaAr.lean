/- All of a heap: what is cloned, sorted, handed on. -/
import Derived.Test.YtkbhjdjdjfdikaaAq
namespace Go.Proofs.Ytkbhjdjdjfdikaa
open Go.RowKit Ap Go.Shelf
attribute [local go_sem ↓] Go.wp_at_zero Go.wp_at_succ
/-- By rising handles. -/
def Asc (X : List (Nat × Int)) : Prop := X.Pairwise (fun a b => a.1 < b.1)
theorem asc_unique : ∀ {X Y : List (Nat × Int)}, Asc X → Asc Y → X.Perm Y → X = Y
  | [], Y, _, _, h => (List.nil_perm.1 h).symm
  | x :: X, [], _, _, h => by simp at h
  | x :: X, y :: Y, hx, hy, h => by
    have hx' := List.pairwise_cons.1 hx
    have hy' := List.pairwise_cons.1 hy
    have e : x = y := by
      have m1 : x ∈ y :: Y := h.subset (by simp)
      have m2 : y ∈ x :: X := h.symm.subset (by simp)
      rcases List.mem_cons.1 m1 with e | m1
      · exact e
      · rcases List.mem_cons.1 m2 with e | m2
        · exact e.symm
        · have h1 := hy'.1 x m1
          have h2 := hx'.1 y m2
          omega
    subst e
    rw [asc_unique hx'.2 hy'.2 ((List.perm_cons x).1 h)]
theorem info82 : (Try.prog.info? 82).map (fun i => (i.zero, i.size, i.bytes)) = some (some (.agg #[.int .i64 0, .int .i64 0]), 2, 16) := by kernel_rfl
theorem own_formA {w : World} {B0 : Nat} {e : TypeId} {sz n : Nat} {v : Value} {xs : List Value} (h : w.ownsRow B0 e sz v n xs) : ∃ vo cap, v = .slice vo n cap ∧ n ≤ cap := by
  rcases h.2 with ⟨rfl, rfl⟩ | ⟨g, cap, cur, hv, hb, hg, hn, _⟩
  · exact ⟨none, 0, rfl, Nat.le_refl _⟩
  · exact ⟨_, cap, hv, hn⟩
set_option maxRecDepth 20000 in
theorem clone_any {v : Value} {E : List (Nat × Int)} {w : World} (h : w.ownsRow 0 82 2 v E.length (ecells E)) (hE : E.length ≤ 65536) : Calls Try.prog 42 #[v] w fun e w' => ∃ so cap, e = .returned (.slice so E.length cap) ∧ w'.ownsRow w.heap.size 82 2 (.slice so E.length cap) E.length (ecells E) ∧ w.grownBy w' none := by
  have q53 : ∀ (w : World) (a : Option Addr) (n c n' c' : Nat), (binOp .eql 53 (.slice a n c) (.slice none n' c')).run Try.prog w = .ok (.bool a.isNone) w := fun w a n c n' c' => Lib.run_eql_slice_nil w _ _ a n c n' c' Try.underlying53
  rcases h.2 with ⟨h1, h0⟩ | ⟨g, cap, cur, hv, hb, hg, hn, hm, hs, ht⟩
  · subst h1
    have hE0 : E = [] := by simpa using h0
    subst hE0
    go_enter Try.func42, Try.ntmps42
    go_wp2
    go_ret
    exact ⟨none, 0, rfl, World.ownsRow_nil _ _ _ _, grown_refl _ _⟩
  · subst hv
    have hg' : w.heap[g]? = some (.cells cur.toList.toArray 82 (0, 0)) := by simpa using hg
    have hcells : ∀ j u, (ecells E)[j]? = some u → w.cell? (Addr.add ⟨g, 0, none⟩ j) = some u := fun j u hj => by rw [Addr.add_lit, Nat.zero_add]; exact own_cell hg' ht hj
    have hone : ∀ u ∈ ecells E, u.oneCell' = true := fun u hu => by
      simp [ecells] at hu
      obtain ⟨a, b, _, hu⟩ := hu
      rcases hu with rfl | rfl <;> rfl
    obtain ⟨i0, hi0, hz0, hz1, hz2⟩ := info_parts info82
    have HI0 := hide (And.intro hi0 (And.intro hz0 (And.intro hz1 hz2)))
    have HC := hide (And.intro hcells hone)
    clear hi0 hz0 hz1 hz2 hcells hone hg hg' hs ht hb h
    go_enter Try.func42, Try.ntmps42
    have hr0 : (w.alloc (.cells #[] 82)).ownsRow w.heap.size 82 2 (.slice (some ⟨w.heap.size, 0, none⟩) 0 0) 0 [] := ⟨rfl, Or.inr ⟨w.heap.size, 0, #[], rfl, Nat.le_refl _, heap_alloc_new w _, Nat.le_refl _, by unfold maxLen; omega, rfl, rfl⟩⟩
    have g1 := World.grownBy_alloc w (.cells #[] 82) none
    have hc1 : ∀ j u, (ecells E)[j]? = some u → (w.alloc (.cells #[] 82)).cell? (Addr.add ⟨g, 0, none⟩ j) = some u := fun j u hj => g1.cell (HC.out.1 j u hj) (by simp)
    have HR := hide (And.intro hr0 (And.intro g1 hc1))
    clear hr0 g1 hc1
    go_wp2_with (at_builtin; refine wpList_append_own _ rfl (.tmp 5) (.tmp 6) 53 rfl w.heap.size 82 i0 (.agg #[.int .i64 0, .int .i64 0]) 2 16 Try.underlying53 HI0.out.1 HI0.out.2.1 HI0.out.2.2.1 HI0.out.2.2.2 rfl (by decide) (.slice (some ⟨w.heap.size, 0, none⟩) 0 0) 0 [] rfl HR.out.1 ⟨g, 0, none⟩ E.length cap (ecells E) rfl (ecells_length E) HR.out.2.2 HC.out.2 (by unfold maxLen; omega) (by omega) HR.out.2.1.size ?_)
    intro v' w' ho hg hv
    clear hv
    obtain ⟨so, c2, rfl, -⟩ := own_formA ho
    have H := hide (And.intro ho (grown_then HR.out.2.1 hg (fun j e => Or.inl (by cases e; exact Nat.le_refl _))))
    clear ho hg
    go_wp2
    go_ret
    exact ⟨so, c2, rfl, H.out.1, H.out.2⟩
/-- The clone's row, as the sort wants it. -/
theorem holds_row {w : World} {g : Nat} {cur : List Value} {E : List (Nat × Int)} (hg : w.heap[g]? = some (.cells cur.toArray 82 (0, 0))) (ht : cur.take (E.length * 2) = ecells E) : Go.Sort.HoldsK encL 2 w g 0 E.toArray := by
  intro j hj
  rw [Go.Sort.size_flatK] at hj
  refine ⟨?_, free_row hg _⟩
  rw [Go.Sort.get_flatK _ _ _ _ hj, Nat.zero_add]
  have hj' : j < E.length * 2 := by simpa using hj
  have hi : j / 2 < E.length := by omega
  have he : E.toArray[j / 2]! = en E (j / 2) := by simp [en, hi]
  rw [he]
  obtain ⟨h1, h2⟩ := ecells_get hi
  rcases Nat.mod_two_eq_zero_or_one j with hm | hm
  · have hjj : j / 2 * 2 = j := by omega
    rw [hjj] at h1
    rw [hm, own_cell hg ht h1]
    rfl
  · have hjj : j / 2 * 2 + 1 = j := by omega
    rw [hjj] at h2
    rw [hm, own_cell hg ht h2]
    rfl
theorem perm_whole {d d' : Array (Nat × Int)} (h : Go.Sort.PermIn 0 d.size d d') : d'.toList.Perm d.toList := by
  have h2 := h.2.2
  have e1 : d'.extract 0 d.size = d' := by rw [← h.1]; simp
  have e2 : d.extract 0 d.size = d := by simp
  rw [e1, e2] at h2
  exact h2
/-- What the sort leaves of rows with distinct handles: the one order by rising handles. -/
theorem sorted_is {E X : List (Nat × Int)} {N : Nat} (_hd : Hds E N) {d' : Array (Nat × Int)} (hp : Go.Sort.PermIn 0 E.toArray.size E.toArray d') (hs : Go.Sort.SortedIn (ltOf cfE) 0 E.toArray.size d') (hX : X.Perm E) (hA : Asc X) : d' = X.toArray := by
  have hperm : d'.toList.Perm X := (perm_whole hp).trans hX.symm
  have hnd : (X.map (·.1)).Nodup := by
    have := hA
    unfold Asc at this
    exact List.pairwise_map.2 (this.imp (fun h => by omega))
  have hnd' : (d'.toList.map (·.1)).Nodup := (hperm.map _).nodup_iff.2 hnd
  have hasc : Asc d'.toList := by
    unfold Asc
    rw [List.pairwise_iff_getElem]
    intro i j hi hj hij
    have hsz : d'.size = E.toArray.size := hp.1
    have h1 := hs i j (Nat.zero_le _) hij (by rw [← hsz]; simpa using hj)
    rw [ltE] at h1
    rw [getElem!_pos d' j (by simpa using hj), getElem!_pos d' i (by simpa using hi)] at h1
    have h2 : d'.toList[i].1 ≠ d'.toList[j].1 := by
      have := List.pairwise_iff_getElem.1 hnd' i j (by simpa using hi) (by simpa using hj) hij
      simpa using this
    simp at h1 h2 ⊢
    omega
  have := asc_unique hasc hA hperm
  rw [← this]
end Go.Proofs.Ytkbhjdjdjfdikaa
