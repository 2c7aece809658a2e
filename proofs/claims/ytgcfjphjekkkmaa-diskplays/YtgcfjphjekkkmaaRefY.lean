/- The document's Sync. -/
import Derived.Test.YtgcfjphjekkkmaaRefK
namespace Go.Proofs.Ytgcfjphjekkkmaa
open Go.RowKit Ap
attribute [local go_sem ↓] Go.wp_at_zero Go.wp_at_succ

theorem fates_own {w : World} {B m cap : Nat} {vo : Option Addr} {F : List (Int × Int)} (h : w.ownsRow B 69 2 (.slice vo m cap) m (fcells F)) : FatesAt w vo F := by
  intro j p hj
  obtain ⟨a, b⟩ := fcells_get F j p hj
  have hm : 0 < m := by
    have h1 := h.1
    have h2 := (List.getElem?_eq_some_iff.1 a).1
    omega
  obtain ⟨ao, cc, e, hao, -, -⟩ := own_form h
  cases e
  obtain ⟨g, rfl⟩ := hao hm
  have c1 := h.cells rfl _ _ a
  have c2 := h.cells rfl _ _ b
  rw [Addr.add_lit] at c1 c2
  exact ⟨g, 0, rfl, c1, c2⟩
theorem fates_one {w : World} : FatesAt (w.alloc (.cells #[.int .i64 1, .int .i64 0] 69)) (some ⟨w.heap.size, 0, none⟩) [(1, 0)] :=
  fates_row (F := [(1, 0)]) (heap_alloc_new w _)
section
variable {w : World} {lo n size : Nat} {q : Rk} {r : Nat}
set_option maxRecDepth 20000 in
set_option maxHeartbeats 4000000 in
theorem rsync_any (hr : q.r = r) (h : RefAt w lo n size q) (hV : q.V.length ≤ 1000000) :
    Calls Try.prog 43 #[.pointer (some ⟨r, 0, none⟩)] w fun e w' => ∃ q' : Rk, e = .returned (.int .i64 0) ∧ q'.r = r ∧ RefAt w' lo n size q' ∧ q'.V = [] ∧ q'.S.map Bx.xs = stlR (fun _ => size) (absV q.V) (q.S.map Bx.xs) q.V.length ∧ Kept w w' (rfoot q) ∧ ∀ i, rfoot q' i → rfoot q i := by
  obtain ⟨vo, vcap, hvw, hvo⟩ := h.wform
  obtain ⟨M, hM⟩ : ∃ M, M = q.V.length := ⟨_, rfl⟩
  have c1 := h.c1
  rw [hvw, hr, ← hM] at c1
  rw [← hM] at hV
  have HH := hide (And.intro h (And.intro hr hM))
  clear h hr hM hvw hvo
  go_enter Try.func43, Try.ntmps43
  go_wp2
  go_loopg [3, 4] M (fun gq v i wr => ∃ j : Nat, gq + j = M ∧ i = .int .i64 j ∧ Hid (wr.ownsRow w.heap.size 69 2 v j (fcells (List.replicate j (1, 0))) ∧ w.grownBy wr none))
  case atStart => exact ⟨0, by omega, rfl, hide ⟨World.ownsRow_nil _ _ _ _, grown_refl _ _⟩⟩
  case round =>
    obtain ⟨j, hkj, rfl, HR⟩ := hrel
    have d1 := HR.out.2.cell c1 (by simp)
    by_cases hk : 0 < gk
    · have h2 : (j : Int) < (M : Int) := by omega
      go_wp2_with (at_builtin; refine wpList_append_fates rfl (.tmp 14) (.tmp 16) rfl w.heap.size u3 j (List.replicate j (1, 0)) rfl (HR.out.1.alloc _) (some ⟨wr.heap.size, 0, none⟩) 1 1 [(1, 0)] rfl rfl fates_one (fun e => by cases e) (by omega) ?_ ?_)
      · exact Nat.le_trans HR.out.2.size (World.grownBy_alloc wr _ none).size
      intro v' w2 o2 g2
      have A2 := hide (And.intro o2 g2)
      clear o2 g2
      go_wp2
      go_roundg (gk - 1)
      case measure => omega
      case rel =>
        refine ⟨j + 1, by omega, by go_num, hide ⟨?_, ?_⟩⟩
        · rw [List.replicate_succ']; exact A2.out.1
        · exact grown_then (grown_trans HR.out.2 (World.grownBy_alloc wr _ none)) A2.out.2 (fun b e => Or.inl (own_block HR.out.1 b e).1)
    · have hj : j = M := by omega
      subst hj
      obtain ⟨fo, fcap, rfl, -, -, -⟩ := own_form HR.out.1
      obtain ⟨h, hr, hM⟩ := HH.out
      have HC := hide (rcrash_any hr (h.grown HR.out.2) (by omega) fo j fcap (List.replicate j (1, 0)) (by simp) (by omega) (fates_own HR.out.1) (fun a e hl hf => by
        have h1 := (own_block HR.out.1 a.block (by rw [e]; rfl)).1
        have h2 := (h.lt _ hf).2
        omega))
      clear h hr hM hkj hk
      go_wp2_with fail
      refine HC.out.mono ?_
      rintro e w2 ⟨q', rfl, z1, z2, z3, z4, z5, z6⟩
      have A2 := hide (And.intro z1 (And.intro z2 (And.intro z3 (And.intro z4 (And.intro z5 z6)))))
      clear z1 z2 z3 z4 z5 z6
      go_wp2
      go_ret
      obtain ⟨z1, z2, z3, z4, z5, z6⟩ := A2.out
      refine ⟨q', rfl, z1, z2, z3, z4.trans (stlR_congr _ ?_), (Kept.new HR.out.2 _).trans z5 (fun _ _ e => e), z6⟩
      intro i hi
      have hi : i < j := by rw [HH.out.2.2]; exact hi
      simp [fateK, hi, lasts]
end
end Go.Proofs.Ytgcfjphjekkkmaa
