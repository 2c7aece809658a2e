/- All of an index. -/
import Derived.Test.YtoocaioilpgmeaaIh
namespace Go.Proofs.Ytoocaioilpgmeaa
open Go.RowKit Ix Go.Shelf
attribute [local go_sem ↓] Go.wp_at_zero Go.wp_at_succ
theorem Try.info69 : (Try.prog.info? 69).map (fun i => (i.zero, i.size, i.bytes)) = some (some (.agg #[.int .u32 0, .int .i64 0]), 2, 16) := by kernel_rfl
def its (S : List (Option (Nat × Int))) : List (Nat × Int) := S.filterMap id
theorem its_take {S : List (Option (Nat × Int))} {i : Nat} (h : i < S.length) : its (S.take (i + 1)) = its (S.take i) ++ (sl S i).toList := by
  unfold its sl
  rw [List.take_add_one, List.filterMap_append, List.getElem?_eq_getElem h]
  simp
  cases S[i] <;> simp
theorem its_len (S : List (Option (Nat × Int))) : (its S).length ≤ S.length := List.length_filterMap_le _ _
theorem two_cells (W : World) (a b : Value) (t : TypeId) : ∀ j u, [a, b][j]? = some u → (W.alloc (.cells #[a, b] t)).cell? ((⟨W.heap.size, 0, none⟩ : Addr).add j) = some u := by
  intro j u hu
  rw [Addr.add_lit, Nat.zero_add, cell_row (heap_alloc_new W (.cells [a, b].toArray t))]
  exact hu
set_option maxRecDepth 20000 in
set_option maxHeartbeats 2000000 in
theorem items_at {w : World} {x g n m c st : Nat} {S : List (Option (Nat × Int))} (h : IxR w x g n m c st S) : Calls Try.prog 37 #[.pointer (some ⟨x, 0, none⟩)] w fun e w' => ∃ so cap, e = .returned (.slice so (its S).length cap) ∧ w'.ownsRow w.heap.size 69 2 (.slice so (its S).length cap) (its S).length (icells (its S)) ∧ w.grownBy w' none := by
  obtain ⟨i0, hi0, hz0, hz1, hz2⟩ := info_parts Try.info69
  have HI0 := hide (And.intro hi0 (And.intro hz0 (And.intro hz1 hz2)))
  have hno := none_at h
  obtain ⟨-, -, -, -, c4⟩ := h.cells
  have hn8 := h.most
  have HH := hide h
  clear h hi0 hz0 hz1 hz2
  go_enter Try.func37, Try.ntmps37
  go_wp2_with fail
  refine hno.mono ?_
  clear hno
  rintro e w1 ⟨rfl, hw1⟩
  obtain rfl := hw1.symm
  go_wp2
  go_loopg [3, 13] n (fun q v3 v13 wr => ∃ i : Nat, v13 = .int .i64 (i : Int) ∧ Hid (q = n - i ∧ i ≤ n ∧ w.grownBy wr none ∧ wr.ownsRow w.heap.size 69 2 v3 (its (S.take i)).length (icells (its (S.take i)))))
  case atStart => exact ⟨0, rfl, rfl, Nat.zero_le _, grown_refl _ _, World.ownsRow_nil _ _ _ _⟩
  case round =>
    obtain ⟨i, rfl, HR⟩ := hrel
    by_cases hlt : i < n
    · have hI := HH.out.then HR.out.2.2.1
      obtain ⟨d0, d1, d2⟩ := hI.slot hlt
      have hlS : i < S.length := by rw [hI.len]; exact hlt
      have htk := its_take hlS
      have hle := its_len (S.take i)
      have hlt' : ((i : Int) < (n : Int)) = True := by simp; omega
      have hwr : IntKind.i64.wrap ((i : Int) + 1) = ((i : Int) + 1) := by rw [IntKind.wrap_i64]; omega
      have hle2 : (its (S.take i)).length ≤ 8192 := by have := List.length_take_le i S; omega
      cases hy : sl S i with
      | none =>
        rw [hy] at d0 d1 d2 htk
        simp only [Option.isSome] at d0
        have HT := hide htk
        clear htk hI hlS hle
        generalize idN none = z1 at *
        generalize vlN none = z2 at *
        go_wp2
        go_roundg (gk - 1)
        case rel => exact ⟨i + 1, by simp, by have := HR.out.1; omega, by omega, grown_trans HR.out.2.2.1 (World.grownBy_alloc wr _ none), by rw [HT.out]; simp only [Option.toList, List.append_nil]; exact HR.out.2.2.2.alloc _⟩
        case measure => have := HR.out.1; omega
      | some y =>
        rw [hy] at d0 d1 d2 htk
        simp only [Option.isSome] at d0
        rw [show idN (some y) = y.1 from rfl] at d1
        rw [show vlN (some y) = y.2 from rfl] at d2
        have HT := hide htk
        clear htk hI hlS
        obtain ⟨y1, hy1⟩ : ∃ y1, y1 = y.1 := ⟨_, rfl⟩
        obtain ⟨y2, hy2⟩ : ∃ y2, y2 = y.2 := ⟨_, rfl⟩
        rw [← hy1] at d1
        rw [← hy2] at d2
        have HY := hide (And.intro hy1 hy2)
        clear hy1 hy2 hle
        have hA := World.grownBy_alloc wr (.cells #[.bool true, .int .u32 (y1 : Int), .int .i64 y2] 71) none
        have hB := World.grownBy_alloc (wr.alloc (.cells #[.bool true, .int .u32 (y1 : Int), .int .i64 y2] 71)) (.cells #[.int .u32 (y1 : Int), .int .i64 y2] 69) none
        have hgB := hide (grown_trans HR.out.2.2.1 (grown_trans hA hB))
        clear hA hB
        have hcs := two_cells (wr.alloc (.cells #[.bool true, .int .u32 (y1 : Int), .int .i64 y2] 71)) (.int .u32 (y1 : Int)) (.int .i64 y2) 69
        have HCS := hide hcs
        clear hcs
        go_wp2_with (at_builtin; refine wpList_append_own _ rfl (.tmp 19) (.tmp 22) 76 rfl w.heap.size 69 i0 (.agg #[.int .u32 0, .int .i64 0]) 2 16 Try.underlying76 HI0.out.1 HI0.out.2.1 HI0.out.2.2.1 HI0.out.2.2.2 rfl (by decide) u3 (its (S.take i)).length (icells (its (S.take i))) rfl ((HR.out.2.2.2.alloc _).alloc _) ⟨wr.heap.size + 1, 0, none⟩ 1 1 [.int .u32 (y1 : Int), .int .i64 y2] rfl rfl (by have := HCS.out; rw [World.size_alloc] at this; exact this) (by simp [Value.oneCell']) (by unfold maxLen; omega) (by omega) hgB.out.size ?_)
        intro v' w' ho hg hv
        clear hv
        have H := hide (And.intro ho (grown_then hgB.out hg (fun j e => Or.inl (HR.out.2.2.2.lt j e).1)))
        clear ho hg
        go_wp2
        go_roundg (gk - 1)
        case rel => exact ⟨i + 1, by simp, by have := HR.out.1; omega, by omega, H.out.2, by rw [HT.out]; simp only [Option.toList, List.length_append, List.length_cons, List.length_nil]; rw [icells_snoc, ← HY.out.1, ← HY.out.2]; exact H.out.1⟩
        case measure => have := HR.out.1; omega
    · have hlt' : ((i : Int) < (n : Int)) = False := by simp; omega
      obtain rfl : i = n := by have := HR.out.2.1; omega
      have hr := HR.out.2.2.2
      rw [show S.take i = S by rw [← HH.out.len]; exact List.take_length] at hr
      obtain ⟨so, cap, rfl, -⟩ := own_form hr
      have H := hide hr
      clear hr
      go_wp2
      go_ret
      exact ⟨so, cap, rfl, H.out, HR.out.2.2.1⟩
end Go.Proofs.Ytoocaioilpgmeaa
