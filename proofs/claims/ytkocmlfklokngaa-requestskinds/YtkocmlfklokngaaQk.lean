/- RequestsKinds: the walk. -/
import Derived.Test.YtkocmlfklokngaaQg
namespace Go.Proofs.Ytkocmlfklokngaa
open Go.RowKit
attribute [local go_sem ↓] Go.wp_at_zero Go.wp_at_succ
/-- How many kinds change something, of the first j from -3 on. -/
def cnt : Nat → Int
  | 0 => 0
  | j + 1 => cnt j + (if chg ((j : Int) - 3) = true then 1 else 0)
theorem cnt_bound : ∀ j : Nat, 0 ≤ cnt j ∧ cnt j ≤ (j : Int)
  | 0 => ⟨by decide, by decide⟩
  | j + 1 => by
    have := cnt_bound j
    unfold cnt
    split <;> omega
theorem cnt_all : cnt 303 = 5 := by decide +kernel
theorem kind_may {k : Int} : (Rq.mk k 7 0 0 0).May ↔ (1 ≤ k ∧ k ≤ 10) := by
  constructor
  · intro h; exact (may_nums h).1
  · intro h
    unfold Rq.May Rq.mayB
    simp only [Bool.and_eq_true, decide_eq_true_eq]
    refine ⟨h, ?_, ?_, ?_⟩
    · unfold inP; split <;> simp
    · unfold inP; split <;> simp
    · unfold inP; split <;> simp
theorem chg_kind {k : Int} (h : chg k = true) : 1 ≤ k ∧ k ≤ 10 := by
  have := of_decide_eq_true h
  omega
set_option maxRecDepth 20000 in
set_option maxHeartbeats 4000000 in
theorem kinds_any (w : World) : Calls Try.prog 7 #[] w fun e w' => e = .returned (.bool true) ∧ w.grownBy w' none := by
  go_enter Try.func7, Try.ntmps7
  go_wp2_with fail
  refine (awake_any w).mono ?_
  rintro e w1 ⟨rfl, hg⟩
  have HG := hide hg
  clear hg
  go_wp2
  go_loopg [1, 2] 303 (fun g n k wr => ∃ j : Nat, g + j = 303 ∧ n = .int .i64 (cnt j) ∧ k = .int .i64 ((j : Int) - 3) ∧ w.grownBy wr none)
  case atStart => exact ⟨0, by omega, rfl, rfl, HG.out⟩
  case round =>
    obtain ⟨j, hkj, rfl, rfl, hg⟩ := hrel
    by_cases hk : 0 < gk
    · have hb := cnt_bound j
      obtain ⟨kk, hkk⟩ : ∃ kk, kk = (j : Int) - 3 := ⟨_, rfl⟩
      rw [← hkk]
      have hlt : kk < 300 := by omega
      have hge : -3 ≤ kk := by omega
      obtain ⟨kn, hkn⟩ : ∃ kn, kn = ((j + 1 : Nat) : Int) - 3 := ⟨_, rfl⟩
      have hnx : IntKind.i64.wrap (kk + 1) = kn := by rw [IntKind.wrap_i64]; omega
      have HN := hide hkn
      obtain ⟨c', hc'⟩ : ∃ c', c' = cnt j + 1 := ⟨_, rfl⟩
      have hcn : cnt (j + 1) = cnt j + (if chg kk = true then 1 else 0) := by rw [hkk]; rfl
      have hc1 : IntKind.i64.wrap (cnt j + 1) = c' := by rw [IntKind.wrap_i64]; omega
      have HC := hide (And.intro hcn (And.intro hg (And.intro hkj hc')))
      have ho : (Rq.mk kk 7 0 0 0).Ok := ⟨by dsimp only; omega, by dsimp only; omega, by dsimp only; omega, by dsimp only; omega, by dsimp only; omega, by dsimp only; omega, by dsimp only; omega, by dsimp only; omega, by dsimp only; omega, by dsimp only; omega⟩
      have qc := check_any ⟨kk, 7, 0, 0, 0⟩ ho wr
      unfold rqV at qc
      dsimp only at qc
      have qg := changes_any kk wr
      have hm := kind_may (k := kk)
      have hi := chg_kind (k := kk)
      have HK := hide hk
      clear hcn hg hkj ho hb hkk hk hkn hc'
      generalize cnt j = c at *
      by_cases hch : chg kk = true
      · have hkr := hi hch
        obtain ⟨h1, h2⟩ := hkr
        rw [hch] at qg
        rw [show chk ⟨kk, 7, 0, 0, 0⟩ = 0 from if_pos (hm.2 ⟨h1, h2⟩)] at qc
        have HE : Hid (cnt (j + 1) = c') := by rw [HC.out.1, if_pos hch]; exact HC.out.2.2.2.symm
        clear hm hi hch
        go_wp2_with fail
        refine qg.mono ?_
        clear qg
        rintro e wx ⟨rfl, hw⟩
        obtain rfl := hw.symm
        clear hw
        go_wp2_with fail
        refine qc.mono ?_
        clear qc
        rintro e w3 ⟨rfl, hg⟩
        have HG3 := hide (grown_trans HC.out.2.1 hg)
        clear hg
        go_wp2
        go_roundg (gk - 1)
        case measure => have := HK.out; omega
        case rel => exact ⟨j + 1, by have := HK.out; have := HC.out.2.2.1; omega, by rw [HE.out], by rw [HN.out], HG3.out⟩
      · have hchf : chg kk = false := by simpa using hch
        rw [hchf] at qg
        have HE : Hid (cnt (j + 1) = c) := by rw [HC.out.1, if_neg hch, Int.add_zero]; exact rfl
        clear hchf
        by_cases h1 : 1 ≤ kk
        · by_cases h2 : kk ≤ 10
          · rw [show chk ⟨kk, 7, 0, 0, 0⟩ = 0 from if_pos (hm.2 ⟨h1, h2⟩)] at qc
            clear hm hi hch
            go_wp2_with fail
            refine qg.mono ?_
            clear qg
            rintro e wx ⟨rfl, hw⟩
            obtain rfl := hw.symm
            clear hw
            go_wp2_with fail
            refine qc.mono ?_
            clear qc
            rintro e w3 ⟨rfl, hg⟩
            have HG3 := hide (grown_trans HC.out.2.1 hg)
            clear hg
            go_wp2
            go_roundg (gk - 1)
            case measure => have := HK.out; omega
            case rel => exact ⟨j + 1, by have := HK.out; have := HC.out.2.2.1; omega, by rw [HE.out], by rw [HN.out], HG3.out⟩
          · rw [show chk ⟨kk, 7, 0, 0, 0⟩ = 200 from if_neg (fun h => h2 (hm.1 h).2)] at qc
            have h3 : decide (kk ≤ 10) = false := decide_eq_false h2
            clear hm hi hch
            go_wp2_with fail
            refine qg.mono ?_
            clear qg
            rintro e wx ⟨rfl, hw⟩
            obtain rfl := hw.symm
            clear hw
            go_wp2_with fail
            refine qc.mono ?_
            clear qc
            rintro e w3 ⟨rfl, hg⟩
            have HG3 := hide (grown_trans HC.out.2.1 hg)
            clear hg
            go_wp2
            go_roundg (gk - 1)
            case measure => have := HK.out; omega
            case rel => exact ⟨j + 1, by have := HK.out; have := HC.out.2.2.1; omega, by rw [HE.out], by rw [HN.out], HG3.out⟩
        · rw [show chk ⟨kk, 7, 0, 0, 0⟩ = 200 from if_neg (fun h => h1 (hm.1 h).1)] at qc
          have h3 : decide (1 ≤ kk) = false := decide_eq_false h1
          clear hm hi hch
          go_wp2_with fail
          refine qg.mono ?_
          clear qg
          rintro e wx ⟨rfl, hw⟩
          obtain rfl := hw.symm
          clear hw
          go_wp2_with fail
          refine qc.mono ?_
          clear qc
          rintro e w3 ⟨rfl, hg⟩
          have HG3 := hide (grown_trans HC.out.2.1 hg)
          clear hg
          go_wp2
          go_roundg (gk - 1)
          case measure => have := HK.out; omega
          case rel => exact ⟨j + 1, by have := HK.out; have := HC.out.2.2.1; omega, by rw [HE.out], by rw [HN.out], HG3.out⟩
    · obtain rfl : j = 303 := by omega
      rw [cnt_all]
      have HG9 := hide hg
      clear hg hkj
      go_wp2_with fail
      refine (changes_any 1 wr).mono ?_
      rintro e wx ⟨rfl, hw⟩
      obtain rfl := hw.symm
      clear hw
      rw [show chg 1 = true from rfl]
      go_wp2_with fail
      refine (changes_any 2 wr).mono ?_
      rintro e wx ⟨rfl, hw⟩
      obtain rfl := hw.symm
      clear hw
      rw [show chg 2 = true from rfl]
      go_wp2_with fail
      refine (changes_any 3 wr).mono ?_
      rintro e wx ⟨rfl, hw⟩
      obtain rfl := hw.symm
      clear hw
      rw [show chg 3 = true from rfl]
      go_wp2_with fail
      refine (changes_any 4 wr).mono ?_
      rintro e wx ⟨rfl, hw⟩
      obtain rfl := hw.symm
      clear hw
      rw [show chg 4 = true from rfl]
      go_wp2_with fail
      refine (changes_any 7 wr).mono ?_
      rintro e wx ⟨rfl, hw⟩
      obtain rfl := hw.symm
      clear hw
      rw [show chg 7 = true from rfl]
      go_wp2
      go_ret
      exact ⟨rfl, HG9.out⟩
end Go.Proofs.Ytkocmlfklokngaa
