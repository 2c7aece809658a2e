/- The contracts of a Reader's other calls. -/
import Derived.Test.YtoflohjlmagjpaaDoorReader
namespace Go.Proofs.YtoflohjlmagjpaaDoor
open Go.RowKit

theorem RdAt.made {w : World} {b : Nat} {xs : List Int} {e : Int} (h : RdAt w b xs e) : w.cell? ⟨b, 2, none⟩ = some (.bool true) := by obtain ⟨ao, cap, hb, _⟩ := h; rw [cell_row hb]; rfl
theorem RdAt.err {w : World} {b : Nat} {xs : List Int} {e : Int} (h : RdAt w b xs e) : w.cell? ⟨b, 1, none⟩ = some (.int .i64 e) := by obtain ⟨ao, cap, hb, _⟩ := h; rw [cell_row hb]; rfl
theorem RdAt.rest {w : World} {b : Nat} {xs : List Int} {e : Int} (h : RdAt w b xs e) : ∃ ao cap, w.cell? ⟨b, 0, none⟩ = some (.slice ao xs.length cap) := by obtain ⟨ao, cap, hb, _⟩ := h; exact ⟨ao, cap, by rw [cell_row hb]; rfl⟩

set_option maxHeartbeats 400000 in
theorem isNone_nil (w : World) : Calls Tryd.prog 90 #[.pointer none] w fun e w' => e = .returned (.bool true) ∧ w' = w := by
  go_enter Tryd.func90, Tryd.ntmps90
  go_wp2
  go_ret
  exact ⟨rfl, rfl⟩
set_option maxHeartbeats 400000 in
theorem isNone_at (b : Nat) (m : Bool) (w : World) (h : w.cell? ⟨b, 2, none⟩ = some (.bool m)) : Calls Tryd.prog 90 #[.pointer (some ⟨b, 0, none⟩)] w fun e w' => e = .returned (.bool (!m)) ∧ w' = w := by
  go_enter Tryd.func90, Tryd.ntmps90
  go_wp2
  go_ret
  exact ⟨rfl, rfl⟩

set_option maxHeartbeats 400000 in
theorem next_any (b : Nat) (xs : List Int) (e n : Int) (w : World) (hR : RdAt w b xs e) (hm1 : -9223372036854775808 ≤ n) (hm2 : n ≤ 9223372036854775807) :
    Calls Tryd.prog 96 #[.pointer (some ⟨b, 0, none⟩), .int .i64 n] w fun r w' => ∃ v, r = .returned v ∧ Given w' b v (takeF xs e n).1 ∧ RdAt w' b (takeF xs e n).2.1 (takeF xs e n).2.2 ∧ w.grownBy w' (some b) := by
  go_enter Tryd.func96, Tryd.ntmps96
  go_wp2_with fail
  refine (isNone_at b true w hR.made).mono ?_
  rintro e1 w' ⟨rfl, rfl⟩
  go_wp2_with fail
  refine (cut_any b xs e n _ hR hm1 hm2).mono ?_
  rintro e1 w' ⟨v, rfl, hG, hR', hg⟩
  obtain ⟨ao, cap, rfl, hrest⟩ := hG
  have H := hide hrest
  clear hrest
  go_wp2
  go_ret
  exact ⟨_, rfl, ⟨ao, cap, rfl, H.out⟩, hR', hg⟩

theorem takeF_given (xs : List Int) (e n : Int) : ((takeF xs e n).1.length : Int) ≤ max n 0 ∧ ∀ x ∈ (takeF xs e n).1, x ∈ xs := by
  unfold takeF
  split
  · simp; omega
  · split
    · simp; omega
    · split
      · simp; omega
      · refine ⟨by simp; omega, fun x hx => List.mem_of_mem_take hx⟩

set_option maxHeartbeats 1000000 in
theorem rnum_any (b : Nat) (xs : List Int) (e S : Int) (size : Nat) (w : World) (hR : RdAt w b xs e) (hB : Byt xs) (hS : S = (size : Int)) (hs : size ≤ 8) :
    Calls Tryd.prog 89 #[.pointer (some ⟨b, 0, none⟩), .int .i64 S] w fun r w' => r = .returned (.int .u64 (leV (takeF xs e S).1)) ∧ RdAt w' b (takeF xs e S).2.1 (takeF xs e S).2.2 ∧ w.grownBy w' (some b) := by
  have hS1 : 0 ≤ S := by omega
  have hS2 : S ≤ 8 := by omega
  obtain ⟨⟨G, R, E⟩, hT⟩ : ∃ p, takeF xs e S = p := ⟨_, rfl⟩
  have hnx := next_any b xs e S w hR (by omega) (by omega)
  have hGl' : G.length ≤ 8 ∧ Byt G := by
    have := takeF_given xs e S
    rw [hT] at this
    exact ⟨by have := this.1; simp only at this; omega, fun x hx => hB x (this.2 x hx)⟩
  obtain ⟨hGl, hGB⟩ := hGl'
  rw [hT] at hnx ⊢
  simp only at hnx ⊢
  have HN := hide hnx
  have HT := hide hT
  clear hS hT hnx
  go_enter Tryd.func89, Tryd.ntmps89
  go_wp2_with fail
  refine HN.out.mono ?_
  rintro e1 w1 ⟨v, rfl, hG, hR', hg⟩
  obtain ⟨ao, cap, rfl, hl, hcm, hat, ho, hn, h5⟩ := hG
  have H := hide (And.intro hR' (And.intro hg hat))
  clear hR' hg hat hn h5 ho HN HT
  go_wp2
  go_loopg [5, 12] G.length (fun k n i wr => ∃ j : Nat, k + j = G.length ∧ i = .int .i64 j ∧ n = .int .u64 (leV (G.take j)) ∧ wr = w1)
  case atStart => exact ⟨0, by simp, rfl, by simp [leV], rfl⟩
  case round =>
    obtain ⟨j, hkj, rfl, rfl, rfl⟩ := hrel
    by_cases hk : 0 < gk
    · have hj : j < G.length := by omega
      obtain ⟨a, rfl, hc⟩ := H.out.2.2 j G[j] (by simp [hj])
      have hx := hGB G[j] (by simp)
      go_wp2
      go_roundg (gk - 1)
      case measure => omega
      case rel =>
        have h8 := or_step (G.take j) G[j] (hGB.take j) hx (by simp; omega)
        have hlen : (G.take j).length = j := by simp; omega
        rw [hlen] at h8
        refine ⟨j + 1, by omega, by go_num, ?_, rfl⟩
        rw [h8, List.take_succ_eq_append_getElem hj]
    · have hj : j = G.length := by omega
      subst hj
      go_wp2
      go_ret
      rw [List.take_length]
      exact ⟨rfl, H.out.1, H.out.2.1⟩
end Go.Proofs.YtoflohjlmagjpaaDoor
