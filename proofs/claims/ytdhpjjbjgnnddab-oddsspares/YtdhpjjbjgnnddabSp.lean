/- OddsSpares walked. -/
import Derived.Test.YtdhpjjbjgnnddabOn
import Derived.Test.YtdhpjjbjgnnddabLApart2
import Derived.Test.YtdhpjjbjgnnddabLCopy
namespace Go.Proofs.Ytdhpjjbjgnnddab
open Go.RowKit
attribute [local go_sem ↓] Go.wp_at_zero Go.wp_at_succ
attribute [local go_sem] run_store_float

/-- The row that is told of s people. -/
def rS (s p : Nat) : List Nat := if lik p = true then rw' (p % 2 ^ 63) s else []
theorem rS_length (s p : Nat) (h : s ≤ 4096) : (rS s p).length ≤ 4097 := by
  unfold rS
  split
  · rw [row_length]; omega
  · simp
theorem shows_own (s p : Nat) (w : World) (hs : s ≤ 4096) : Calls Try.prog 7 #[.int .i64 (s : Int), .float .f64 p] w fun e w' => ∃ v er, e = .returned (.tuple #[v, .int .i64 er]) ∧ w'.ownsRow w.heap.size 27 1 v (rS s p).length (fv (rS s p)) ∧ w.grownBy w' none := by
  by_cases hp : lik p = true
  · have e1 : rS s p = rw' (p % 2 ^ 63) s := by unfold rS; rw [if_pos hp]
    rw [e1]
    refine (shows_any w s p w (grown_refl _ _) hs hp).mono ?_
    rintro e w' ⟨v, g, c, rfl, hrow, hg⟩
    exact ⟨v, 0, rfl, hrow.own, hg⟩
  · have e1 : rS s p = [] := by unfold rS; rw [if_neg hp]
    rw [e1]
    refine (shows_real (s : Int) p w (by omega) (by simpa using hp)).mono ?_
    rintro e w' ⟨rfl, rfl⟩
    exact ⟨_, _, rfl, World.ownsRow_nil _ _ _ _, grown_refl _ _⟩

set_option maxRecDepth 100000 in
set_option maxHeartbeats 2000000 in
theorem oddsSpares_any (n : Int) (p : Nat) (w : World) : Calls Try.prog 5 #[.int .i64 n, .float .f64 p] w fun e w' => e = .returned (.bool true) ∧ w.grownBy w' none := by
  have hn1 := Int.emod_nonneg n (show (60 : Int) ≠ 0 by omega)
  have hn2 := Int.emod_lt_of_pos n (show (0 : Int) < 60 by omega)
  obtain ⟨s, hs⟩ : ∃ s : Nat, n % ((60 : Nat) : Int) = (s : Int) := ⟨(n % 60).toNat, by omega⟩
  have P := pick_any n 60 60 w rfl (by omega) (by omega)
  rw [hs] at P
  have hsb : s ≤ 59 := by omega
  have HP := hide P
  have HS := hide (fun w => shows_own s p w (by omega))
  have hlen := rS_length s p (by omega)
  clear P hs hn1 hn2
  generalize rS s p = X at *
  obtain ⟨l, hl⟩ : ∃ l, l = X.length := ⟨_, rfl⟩
  rw [← hl] at HS hlen
  have HL := hide hl
  clear hl
  go_enter Try.func5, Try.ntmps5
  go_wp2_with fail
  refine HP.out.mono ?_
  rintro e w1 ⟨rfl, hw⟩
  obtain rfl := hw.symm
  clear hw HP
  go_wp2_with fail
  refine (HS.out w).mono ?_
  rintro e w1 ⟨v1, er1, rfl, hown1, hg1⟩
  have H1 := hide (And.intro hown1 hg1)
  clear hown1 hg1
  go_wp2_with fail
  refine (HS.out w1).mono ?_
  rintro e w2 ⟨v2, er2, rfl, hown2, hg2⟩
  have H2 := hide (And.intro hown2 (And.intro (own_grown H1.out.1 hg2) hg2))
  have HN := hide (Al.own_newer H1.out.1 hown2)
  clear hown2 hg2
  obtain ⟨ao, cap, e1, h1, h2, h3, hat, hnil, -⟩ := own_at H2.out.2.1
  have HA := hide (And.intro h1 (And.intro hat hnil))
  clear h1 h2 h3 hat hnil
  obtain ⟨bo, cap2, e2, -⟩ := own_at H2.out.1
  subst e1 e2
  go_wp2_with fail
  refine (Al.copy_any ao l cap X w2 HL.out.symm HA.out.2.1 HA.out.2.2 (by omega)).mono ?_
  rintro e w3 ⟨v3, rfl, hown3, hg3⟩
  have H3 := hide (And.intro hown3 hg3)
  clear hown3 hg3
  go_wp2_with fail
  have hA : w3.ownsRow 0 27 1 (.slice ao l cap) l (fv X) := own_base (own_grown H2.out.2.1 H3.out.2) (Nat.zero_le _)
  have hB : w3.ownsRow 0 27 1 (.slice bo l cap2) l (fv X) := own_base (own_grown H2.out.1 H3.out.2) (Nat.zero_le _)
  have hR : Al.Rw w3 0 [.slice ao l cap, .slice bo l cap2] := Al.Rw.cons hA (by omega) (fun u hu => by simp at hu; subst hu; exact HN.out) (Al.Rw.cons hB (by omega) (fun u hu => by cases hu) (Al.Rw.nil _ _))
  have hap := Al.apartL_rows 0 _ w3 hR (Nat.zero_le _) (by simp) (by simp)
  clear hR hA hB
  refine hap.mono ?_
  clear hap
  rintro e w7 ⟨rfl, hg7⟩
  have hT7 : ∀ k, (∃ i, i < 2 ∧ (([.slice ao l cap, .slice bo l cap2] : List Value).getD i undef).ownBlock = some k) → (Value.slice ao l cap).ownBlock = some k ∨ (Value.slice bo l cap2).ownBlock = some k := by
    rintro k ⟨i, hi, e⟩
    have : i = 0 ∨ i = 1 := by omega
    rcases this with rfl | rfl
    · exact Or.inl e
    · exact Or.inr e
  have hv7 := Al.own_keptT H3.out.1 hg7 (fun k e t => by
    have := (H3.out.1.lt k e).1
    rcases hT7 k t with h | h
    · have := (H2.out.2.1.lt k h).2
      omega
    · have := (H2.out.1.lt k h).2
      omega)
  have hG7 : w.grownBy w7 none := Al.grownT_after (grown_trans H1.out.2 (grown_trans H2.out.2.2 H3.out.2)) hg7 (fun k t => by
    rcases hT7 k t with h | h
    · exact (H1.out.1.lt k h).1
    · have := (H2.out.1.lt k h).1
      have := H1.out.2.size
      omega)
  have H7 := hide (And.intro hv7 hG7)
  obtain ⟨av, cv, e3, -, -, -, -, -, -⟩ := own_at H3.out.1
  subst e3
  clear hv7 hG7 hT7 hg7 H1 H2 H3 HN HA
  go_wp2_with fail
  refine (HS.out w7).mono ?_
  rintro e w8 ⟨v8, er8, rfl, hown8, hg8⟩
  obtain ⟨co, cap8, e8, -, -, -, hat8, -, -⟩ := own_at hown8
  obtain ⟨av2, cv2, e9, -, -, -, hatv, -, -⟩ := own_at (own_grown H7.out.1 hg8)
  cases e9
  have H8 := hide (And.intro hat8 (And.intro hatv (grown_trans H7.out.2 hg8)))
  subst e8
  clear hown8 hg8 hat8 hatv
  go_wp2_with fail
  refine (bits_eq co av l cap8 cv X w8 HL.out H8.out.1 H8.out.2.1 (by omega)).mono ?_
  rintro e w9 ⟨rfl, hg9⟩
  have H9 := hide (grown_trans H8.out.2.2 hg9)
  clear hg9 H8
  go_wp2_with fail
  refine (awake_any _).mono ?_
  rintro e w10 ⟨rfl, hg10⟩
  have H10 := hide (grown_trans H9.out hg10)
  clear hg10
  go_wp2
  go_ret
  exact ⟨rfl, H10.out⟩
end Go.Proofs.Ytdhpjjbjgnnddab
