/- The contract of awake. -/
import Derived.Test.YtfjpgmpffmpejaaDoorPatch
import Derived.Lib.SmallJoins
import Derived.Laws.IdiomStrings
namespace Go.Proofs.YtfjpgmpffmpejaaDoor
open Go.RowKit
attribute [local go_sem ↓] Go.wp_at_zero Go.wp_at_succ

theorem bytes_dec {xs : List Nat} (h : xs.all (fun x => decide (x < 256)) = true) : Bytes xs := fun x hx => by
  have := List.all_eq_true.1 h x hx
  simpa using this

set_option maxRecDepth 100000 in
theorem aw_patch : patchL [97, 98, 99, 100] 0 (Poly.more 0 [101, 102, 103, 104]) = [101, 102, 103, 104] := by decide
theorem aw_sum4 : Poly.more 0 [101, 102, 103, 104] < 4294967296 := Poly.more_lt _ (by decide) (bytes_dec (by decide))
set_option maxRecDepth 100000 in
theorem aw_sum9 : Poly.more 0 [49, 50, 51, 52, 53, 54, 55, 56, 57] = 3421780262 := by decide
set_option maxRecDepth 100000 in
theorem aw_more : Poly.more (Poly.more 0 [97]) [98, 99] = 891568578 := by decide
theorem aw_join : joinN 5 3 0 = 6 := by decide

/-- '[]byte("..")' of a constant text. -/
theorem conv_const (w : World) (C : Array Value) (n c g : Nat) (hg : g = w.heap.size) : (convert 23 23 (.slice (some ⟨g, 0, none⟩) n c)).run Tryd.prog (w.alloc (.cells C 5)) = .ok (.slice (some ⟨g, 0, none⟩) n c) (w.alloc (.cells C 5 (C.size, C.size + 1))) :=
  by subst hg; exact Lib.run_convert_bytes_const w 23 5 C n c Tryd.underlying23 Tryd.underlying5
theorem grown_alloc (w : World) (o : Obj) : w.grownBy (w.alloc o) none := World.grownBy_alloc w o none
theorem at_const (w : World) (xs : List Nat) (C : Array Value) (hC : C = (bv xs).toArray) (t : TypeId) (fr : Nat × Nat) : At (w.alloc (.cells C t fr)) (some ⟨w.heap.size, 0, none⟩) xs := by
  subst hC; exact at_row (heap_alloc_new w _)

/-- 'string(p)' of the four bytes that Patch answers there. -/
theorem conv_str (w : World) (g cap : Nat) (h : At w (some ⟨g, 0, none⟩) [101, 102, 103, 104]) : (convert 23 9 (.slice (some ⟨g, 0, none⟩) 4 cap)).run Tryd.prog w = .ok (.string ⟨#[101, 102, 103, 104]⟩) w := by
  refine run_convert_bytes_back w 23 9 5 ⟨g, 0, none⟩ cap [101, 102, 103, 104] Tryd.underlying23 Tryd.underlying5 Tryd.underlying9 ?_
  intro j hj
  have hj4 : j < 4 := hj
  have hk : ∀ (i u : Nat), [101, 102, 103, 104][i]? = some u → w.cell? ((⟨g, 0, none⟩ : Addr).add i) = some (.int .u8 (u : Int)) := by
    intro i u hu
    obtain ⟨a, e, hc⟩ := h i u hu
    cases e
    exact hc
  have : j = 0 ∨ j = 1 ∨ j = 2 ∨ j = 3 := by omega
  rcases this with rfl | rfl | rfl | rfl
  · exact hk 0 101 rfl
  · exact hk 1 102 rfl
  · exact hk 2 103 rfl
  · exact hk 3 104 rfl

section
attribute [local go_sem] conv_const
set_option maxRecDepth 100000 in
set_option maxHeartbeats 1000000 in
theorem awake_any (w : World) (hT : Tab w) : Calls Tryd.prog 15 #[] w fun e w' => e = .returned (.bool true) ∧ w.grownBy w' none := by
  have HT := hide hT
  clear hT
  go_enter Tryd.func15, Tryd.ntmps15
  go_wp2_with fail
  have hg1 := grown_trans (grown_alloc w (Obj.cells #[Value.int IntKind.u8 97, Value.int IntKind.u8 98, Value.int IntKind.u8 99, Value.int IntKind.u8 100] 5 (4, 5))) (grown_alloc _ (Obj.cells #[Value.int IntKind.u8 101, Value.int IntKind.u8 102, Value.int IntKind.u8 103, Value.int IntKind.u8 104] 5 (4, 5)))
  have ha0 := (at_const w [97, 98, 99, 100] #[Value.int IntKind.u8 97, Value.int IntKind.u8 98, Value.int IntKind.u8 99, Value.int IntKind.u8 100] rfl 5 (4, 5)).grown (grown_alloc _ (Obj.cells #[Value.int IntKind.u8 101, Value.int IntKind.u8 102, Value.int IntKind.u8 103, Value.int IntKind.u8 104] 5 (4, 5)))
  have ha1 := at_const (w.alloc (Obj.cells #[Value.int IntKind.u8 97, Value.int IntKind.u8 98, Value.int IntKind.u8 99, Value.int IntKind.u8 100] 5 (4, 5))) [101, 102, 103, 104] #[Value.int IntKind.u8 101, Value.int IntKind.u8 102, Value.int IntKind.u8 103, Value.int IntKind.u8 104] rfl 5 (4, 5)
  rw [World.size_alloc] at ha1
  refine (sum_any _ 4 4 [101, 102, 103, 104] _ rfl (bytes_dec (by decide)) ha1 (HT.out.grown hg1) (by decide)).mono ?_
  rintro e w1 ⟨rfl, hw1⟩
  rw [← hw1] at hg1 ha0
  have H1 := hide (And.intro hg1 ha0)
  have hs := aw_sum4
  have HP := hide aw_patch
  clear hw1 hg1 ha0 ha1
  generalize Poly.more 0 [101, 102, 103, 104] = S at *
  go_wp2_with fail
  obtain ⟨hg1, ha0⟩ := H1.out
  refine (patch_any _ 4 4 0 S [97, 98, 99, 100] _ rfl (bytes_dec (by decide)) ha0 (fun e => by cases e) (HT.out.grown hg1) (by decide) (by decide) hs).mono ?_
  rintro e w2 ⟨v, rfl, hown, hg2⟩
  rw [HP.out] at hown
  obtain ⟨ao, cap, rfl, _, hnc, hcm, hat, hnil, h5⟩ := own_at hown
  obtain ⟨a', rfl⟩ : ∃ a', ao = some a' := by
    cases ao with
    | none => have := (hnil rfl).1; omega
    | some a' => exact ⟨a', rfl⟩
  obtain ⟨ha', _, _⟩ := h5 a' rfl
  obtain ⟨g, hg0⟩ : ∃ g, g = a'.block := ⟨_, rfl⟩
  rw [← hg0] at ha'
  subst ha'
  have H2 := hide (And.intro (grown_trans hg1 hg2) hat)
  clear HP H1 hg1 ha0 hown hg2 hat hnil h5 hg0 hs hcm hnc
  go_wp2_with fail
  have ha3 := at_const w2 [49, 50, 51, 52, 53, 54, 55, 56, 57] _ rfl 5 (9, 10)
  have hg3 := grown_alloc w2 (Obj.cells (bv [49, 50, 51, 52, 53, 54, 55, 56, 57]).toArray 5 (9, 10))
  refine (sum_any _ 9 9 [49, 50, 51, 52, 53, 54, 55, 56, 57] _ rfl (bytes_dec (by decide)) ha3 (HT.out.grown (grown_trans H2.out.1 hg3)) (by decide)).mono ?_
  rintro e w3 ⟨rfl, hw3⟩
  rw [aw_sum9]
  rw [← hw3] at hg3
  have H3 := hide (And.intro (grown_trans H2.out.1 hg3) (H2.out.2.grown hg3))
  clear hw3 hg3 ha3 H2
  go_wp2_with fail
  have ha4 := at_const w3 [97] _ rfl 5 (1, 2)
  have hg4 := grown_alloc w3 (Obj.cells (bv [97]).toArray 5 (1, 2))
  refine (sum_any _ 1 1 [97] _ rfl (bytes_dec (by decide)) ha4 (HT.out.grown (grown_trans H3.out.1 hg4)) (by decide)).mono ?_
  rintro e w4 ⟨rfl, hw4⟩
  rw [← hw4] at hg4
  have H4 := hide (And.intro (grown_trans H3.out.1 hg4) (H3.out.2.grown hg4))
  have hl : Poly.more 0 [97] < 4294967296 := Poly.more_lt _ (by decide) (bytes_dec (by decide))
  have HM := hide aw_more
  generalize Poly.more 0 [97] = S2 at *
  clear hw4 hg4 ha4 H3
  go_wp2_with fail
  have ha5 := at_const w4 [98, 99] _ rfl 5 (2, 3)
  have hg5 := grown_alloc w4 (Obj.cells (bv [98, 99]).toArray 5 (2, 3))
  refine (more_any S2 _ 2 2 [98, 99] _ hl rfl (bytes_dec (by decide)) ha5 (HT.out.grown (grown_trans H4.out.1 hg5)) (by decide)).mono ?_
  rintro e w5 ⟨rfl, hw5⟩
  rw [HM.out]
  rw [← hw5] at hg5
  have H5 := hide (And.intro (grown_trans H4.out.1 hg5) (H4.out.2.grown hg5))
  have hcs := conv_str w5 g cap H5.out.2
  clear hw5 hg5 ha5 H4 HM hl
  go_wp2_with fail
  have hj := join_any 5 3 0 (by decide) (by decide) (by decide) w5
  rw [aw_join] at hj
  refine hj.mono ?_
  rintro e w6 ⟨rfl, rfl⟩
  clear hj
  go_wp2
  go_ret
  exact ⟨rfl, H5.out.1⟩
end
end Go.Proofs.YtfjpgmpffmpejaaDoor
