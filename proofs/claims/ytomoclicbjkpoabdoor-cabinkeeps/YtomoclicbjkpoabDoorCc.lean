/- The contracts of checkSeats, Seats, Place, Window, Beside. -/
import Derived.Test.YtomoclicbjkpoabDoorCb
namespace Go.Proofs.YtomoclicbjkpoabDoor
open Go.RowKit Cx
attribute [local go_sem ↓] Go.wp_at_zero Go.wp_at_succ

/-- All of these are seats. -/
def All (R W : Int) (xs : List Int) : Prop := ∀ x ∈ xs, 0 ≤ x ∧ x < R * W
instance (R W : Int) (xs : List Int) : Decidable (All R W xs) := by unfold All; exact inferInstance
/-- What seats are refused with. -/
def wrg (R W : Int) (L xs : List Int) : Int := if Ok R W L then (if All R W xs then 0 else 140) else 2
theorem wrg_no {R W : Int} {L xs : List Int} (h : ¬ Ok R W L) : wrg R W L xs = 2 := if_neg h
theorem wrg_ok {R W : Int} {L xs : List Int} (h : Ok R W L) (h2 : All R W xs) : wrg R W L xs = 0 := by unfold wrg; rw [if_pos h, if_pos h2]
theorem wrg_seat {R W : Int} {L xs : List Int} (h : Ok R W L) (h2 : ¬ All R W xs) : wrg R W L xs = 140 := by unfold wrg; rw [if_pos h, if_neg h2]

set_option maxHeartbeats 1000000 in
theorem checkSeats_any (R W : Int) (ao : Option Addr) (n cap : Nat) (L : List Int) (w : World) (hc : CbIn w ao n cap L) (so : Option Addr) (m mc : Nat) (xs : List Int) (hx : At w so xs) (hm : xs.length = m) (hm2 : m ≤ 100) :
    Calls Tryd.prog 25 #[cbV R W (.slice ao n cap), .slice so m mc] w fun e w' => e = .returned (.int .i64 (wrg R W L xs)) ∧ w.grownBy w' none := by
  have C := hide (fun w' (hg : w.grownBy w' none) => check_any R W ao n cap L w' (hc.grown hg))
  by_cases ho : Ok R W L
  · rw [code_ok ho] at C
    obtain ⟨z, hz⟩ : ∃ z, z = wrg R W L xs := ⟨_, rfl⟩
    rw [← hz]
    have S := hide (seatsOf_any R W (.slice ao n cap) ho.1 ho.2.1 ho.2.2.1 ho.2.2.2.1)
    have HZ := hide (And.intro hz (And.intro hx (And.intro hm ho)))
    clear hc hz hx hm ho
    unfold cbV at *
    go_enter Tryd.func25, Tryd.ntmps25
    go_wp2_with fail
    refine (C.out _ (grown_alloc w _)).mono ?_
    rintro e w1 ⟨rfl, hg1⟩
    have hb := box_kept hg1
    have G1 := hide (grown_trans (grown_alloc w _) hg1)
    clear hg1
    have B := hide hb
    clear hb
    go_wp2
    generalize hNN : R * W = NN at *
    have HNN := hide hNN
    clear hNN
    go_loopg [15] m (fun k i wr => ∃ j : Nat, k + j = m ∧ i = .int .i64 j ∧ (∀ x ∈ xs.take j, 0 ≤ x ∧ x < NN) ∧ wr.heap[w.heap.size]? = some (.cells #[.int .i64 R, .int .i64 W, .slice ao n cap] 25) ∧ w.grownBy wr none)
    case atStart => exact ⟨0, by omega, rfl, (fun x h => by simp at h), B.out, G1.out⟩
    case round =>
      obtain ⟨j, hkj, rfl, hall, hbx, hg⟩ := hrel
      obtain ⟨hz, hx, hm, ho⟩ := HZ.out
      by_cases hk : 0 < gk
      · have hj : j < xs.length := by rw [hm]; omega
        obtain ⟨a, rfl, hcell⟩ := (hx.grown hg) j _ (List.getElem?_eq_getElem hj)
        have htk : xs.take (j + 1) = xs.take j ++ [xs[j]] := by rw [List.take_add_one, List.getElem?_eq_getElem hj]; rfl
        have hmem := List.getElem_mem hj
        have HJ := hide (And.intro htk (And.intro hmem hall))
        clear htk hmem hall
        generalize xs[j] = x at *
        have hbad : ¬ (0 ≤ x ∧ x < NN) → z = 140 := by
          intro h
          rw [hz]
          exact wrg_seat ho (fun ha => h (by rw [← HNN.out]; exact ha x HJ.out.2.1))
        have HB := hide hbad
        have h5 : (0 : Int) ≤ (j : Int) := by omega
        have h6 : (j : Int) < (m : Int) := by omega
        have c0 := cell_row (l := [.int .i64 R, .int .i64 W, .slice ao n cap]) hbx 0
        have c1 := cell_row (l := [.int .i64 R, .int .i64 W, .slice ao n cap]) hbx 1
        have c2 := cell_row (l := [.int .i64 R, .int .i64 W, .slice ao n cap]) hbx 2
        simp only [List.getElem?_cons_zero, List.getElem?_cons_succ] at c0 c1 c2
        have HG := hide (And.intro hbx hg)
        clear hbad hz hx hm ho hbx hg
        by_cases h7 : x < 0
        · have := HB.out (by omega)
          subst this
          go_wp2
          go_ret
          exact ⟨rfl, HG.out.2⟩
        · by_cases h8 : x < NN
          · go_wp2_with fail
            refine (S.out _).mono ?_
            rintro e w2 ⟨rfl, hg2⟩
            have HG2 := hide hg2
            clear hg2
            go_wp2
            go_roundg (gk - 1)
            case measure => omega
            case rel =>
              refine ⟨j + 1, by omega, by go_num, ?_, heap_kept HG.out.1 HG2.out (by simp), grown_trans HG.out.2 HG2.out⟩
              rw [HJ.out.1]
              intro y hy
              rcases List.mem_append.1 hy with h | h
              · exact HJ.out.2.2 y h
              · simp at h; subst h; omega
          · have := HB.out (by omega)
            subst this
            go_wp2_with fail
            refine (S.out _).mono ?_
            rintro e w2 ⟨rfl, hg2⟩
            have HG2 := hide hg2
            clear hg2
            go_wp2
            go_ret
            exact ⟨rfl, grown_trans HG.out.2 HG2.out⟩
      · have hj : j = m := by omega
        subst hj
        rw [← hm, List.take_length] at hall
        rw [wrg_ok ho (by intro y hy; rw [HNN.out]; exact hall y hy)] at hz
        subst hz
        have HG := hide hg
        clear hall hbx hg hx hm ho
        go_wp2
        go_ret
        exact ⟨rfl, HG.out⟩
  · rw [code_no ho] at C
    rw [wrg_no ho]
    clear ho hc hx hm
    unfold cbV at *
    go_enter Tryd.func25, Tryd.ntmps25
    go_wp2_with fail
    refine (C.out _ (grown_alloc w _)).mono ?_
    rintro e w1 ⟨rfl, hg1⟩
    have G1 := hide (grown_trans (grown_alloc w _) hg1)
    clear hg1
    go_wp2
    go_ret
    exact ⟨rfl, G1.out⟩
end Go.Proofs.YtomoclicbjkpoabDoor
