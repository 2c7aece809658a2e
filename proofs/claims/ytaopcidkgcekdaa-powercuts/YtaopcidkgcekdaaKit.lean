/- The contracts of SameBytes, SameRows, fill, Pick. -/
import Derived.Test.YtaopcidkgcekdaaCrash
namespace Go.Proofs.Ytaopcidkgcekdaa
open Go.RowKit Ap
attribute [local go_sem ↓] Go.wp_at_zero Go.wp_at_succ

theorem drews (w : World) (p q : Nat) : ∃ r, (w.drewN p).drewN q = w.drewN r := ⟨p + q, World.drewN_drewN ..⟩
set_option maxHeartbeats 1000000 in
theorem sameBytes_eq (ao bo : Option Addr) (n c d : Nat) (xs : List Nat) (w : World) (hn : xs.length = n) (ha : At w ao xs) (hb : At w bo xs) (hm : n ≤ 4611686018427387904) :
    Calls Try.prog 15 #[.slice ao n c, .slice bo n d] w fun e w' => e = .returned (.bool true) ∧ ∃ q, w' = w.drewN q := by
  have HA := hide (And.intro hn (And.intro ha hb))
  clear hn ha hb
  go_enter Try.func15, Try.ntmps15
  go_wp2
  go_loopg [5] n (fun k i wr => ∃ j : Nat, k + j = n ∧ i = .int .i64 j ∧ Hid (∃ q, wr = w.drewN q))
  case atStart => exact ⟨0, by omega, rfl, hide ⟨0, rfl⟩⟩
  case round =>
    obtain ⟨j, hkj, rfl, HQ⟩ := hrel
    by_cases hk : 0 < gk
    · obtain ⟨hn, ha, hb⟩ := HA.out
      have hj : j < xs.length := by omega
      obtain ⟨a, rfl, hca⟩ := ha j xs[j] (by simp [hj])
      obtain ⟨b, rfl, hcb⟩ := hb j xs[j] (by simp [hj])
      have hca' : wr.cell? (a.add j) = some (.int .u8 (xs[j] : Int)) := by obtain ⟨q, rfl⟩ := HQ.out; exact hca
      have hcb' : wr.cell? (b.add j) = some (.int .u8 (xs[j] : Int)) := by obtain ⟨q, rfl⟩ := HQ.out; exact hcb
      have h1 : (0 : Int) ≤ (j : Int) := by omega
      have h2 : (j : Int) < (n : Int) := by omega
      generalize xs[j] = x at *
      clear hn ha hb hca hcb hj
      go_wp2
      go_region_held3 (fun w' => w'.cell? (a.add j) = some (.int .u8 (x : Int)) ∧ w'.cell? (b.add j) = some (.int .u8 (x : Int))) (go_keep) (fail)
      go_wp2
      go_roundg (gk - 1)
      case measure => omega
      case rel => exact ⟨j + 1, by omega, by go_num, hide (by obtain ⟨q, rfl⟩ := HQ.out; exact ⟨q + 1, rfl⟩)⟩
    · have hj : j = n := by omega
      subst hj
      go_wp2
      go_ret
      exact ⟨rfl, HQ.out⟩

/-- Rows of bytes: the slices' values lie there, and each row's bytes. -/
def RowsAt (w : World) (ro : Option Addr) (R : List (List Nat)) : Prop := ∀ j xs, R[j]? = some xs → ∃ b o ao cap, ro = some ⟨b, o, none⟩ ∧ w.cell? ⟨b, o + j, none⟩ = some (.slice ao xs.length cap) ∧ At w ao xs ∧ xs.length ≤ 4611686018427387904
theorem RowsAt.drew {w : World} {ro : Option Addr} {R : List (List Nat)} (h : RowsAt w ro R) (q : Nat) : RowsAt (w.drewN q) ro R := h
theorem RowsAt.grown {w w' : World} {ro : Option Addr} {R : List (List Nat)} (h : RowsAt w ro R) (hg : w.grownBy w' none) : RowsAt w' ro R := by
  intro j xs hj
  obtain ⟨b, o, ao, cap, h1, h2, h3, h4⟩ := h j xs hj
  exact ⟨b, o, ao, cap, h1, hg.cell h2 (by simp), h3.grown hg, h4⟩
set_option maxHeartbeats 1000000 in
theorem sameRows_eq (ao bo : Option Addr) (n c d : Nat) (R : List (List Nat)) (w : World) (hn : R.length = n) (ha : RowsAt w ao R) (hb : RowsAt w bo R) (hm : n ≤ 4611686018427387904) :
    Calls Try.prog 22 #[.slice ao n c, .slice bo n d] w fun e w' => e = .returned (.bool true) ∧ ∃ q, w' = w.drewN q := by
  have HA := hide (And.intro hn (And.intro ha hb))
  clear hn ha hb
  go_enter Try.func22, Try.ntmps22
  go_wp2
  go_loopg [5] n (fun k i wr => ∃ j : Nat, k + j = n ∧ i = .int .i64 j ∧ Hid (∃ q, wr = w.drewN q))
  case atStart => exact ⟨0, by omega, rfl, hide ⟨0, rfl⟩⟩
  case round =>
    obtain ⟨j, hkj, rfl, HQ⟩ := hrel
    by_cases hk : 0 < gk
    · obtain ⟨hn, ha, hb⟩ := HA.out
      have hj : j < R.length := by omega
      obtain ⟨b1, o1, p1, c1, rfl, x1, y1, z1⟩ := ha j R[j] (by simp [hj])
      obtain ⟨b2, o2, p2, c2, rfl, x2, y2, z2⟩ := hb j R[j] (by simp [hj])
      have hca' : wr.cell? ⟨b1, o1 + j, none⟩ = some (.slice p1 R[j].length c1) := by obtain ⟨q, rfl⟩ := HQ.out; exact x1
      have hcb' : wr.cell? ⟨b2, o2 + j, none⟩ = some (.slice p2 R[j].length c2) := by obtain ⟨q, rfl⟩ := HQ.out; exact x2
      have h1 : (0 : Int) ≤ (j : Int) := by omega
      have h2 : (j : Int) < (n : Int) := by omega
      have HS : Hid (∀ q, Calls Try.prog 15 #[.slice p1 R[j].length c1, .slice p2 R[j].length c2] (wr.drewN q) fun e w' => e = .returned (.bool true) ∧ ∃ q', w' = (wr.drewN q).drewN q') := by
        intro q
        obtain ⟨q0, rfl⟩ := HQ.out
        exact sameBytes_eq p1 p2 _ c1 c2 R[j] _ rfl y1 y2 z1
      generalize R[j].length = m at *
      clear hn ha hb x1 x2 y1 y2 z1 z2 hj
      go_wp2
      go_quiet ((go_at_call 15; exact Calls.quiet_of (HS.out _)))
      go_wp2
      go_roundg (gk - 1)
      case measure => omega
      case rel => exact ⟨j + 1, by omega, by go_num, hide (by obtain ⟨q, rfl⟩ := HQ.out; exact drews w q _)⟩
    · have hj : j = n := by omega
      subst hj
      go_wp2
      go_ret
      exact ⟨rfl, HQ.out⟩

theorem tmod_neg (x : Int) (n : Nat) (hn : 1 ≤ n) (h : x.tmod (n : Int) < 0) : x.tmod (n : Int) + (n : Int) = x % (n : Int) := by
  have h1 := Int.tmod_eq_emod (a := x) (b := (n : Int))
  have h2 := Int.emod_nonneg x (show (n : Int) ≠ 0 by omega)
  have h3 := Int.emod_lt_of_pos x (show (0 : Int) < (n : Int) by omega)
  rw [h1] at h ⊢
  split at h
  · omega
  · rename_i h4
    rw [if_neg h4]
    simp
theorem tmod_nonneg (x : Int) (n : Nat) (hn : 1 ≤ n) (h : 0 ≤ x.tmod (n : Int)) : x.tmod (n : Int) = x % (n : Int) := by
  have h1 := Int.tmod_eq_emod (a := x) (b := (n : Int))
  have h2 := Int.emod_nonneg x (show (n : Int) ≠ 0 by omega)
  have h3 := Int.emod_lt_of_pos x (show (0 : Int) < (n : Int) by omega)
  rw [h1] at h ⊢
  split
  · omega
  · rename_i h4
    rw [if_neg h4] at h
    simp at h
    omega

set_option maxHeartbeats 400000 in
theorem pick_any (x N : Int) (n : Nat) (w : World) (hN : N = (n : Int)) (hn : 1 ≤ n) (hn2 : n ≤ 65536) :
    Calls Try.prog 8 #[.int .i64 x, .int .i64 N] w fun e w' => e = .returned (.int .i64 (x % (n : Int))) ∧ w' = w := by
  subst hN
  have h1 : (1 : Int) ≤ (n : Int) := by omega
  have h2 : ((n : Int) == 0) = false := by simp; omega
  have hb := Int.tmod_lt_of_pos x (show (0 : Int) < (n : Int) by omega)
  have hb2 := Int.lt_tmod_of_pos x (show (0 : Int) < (n : Int) by omega)
  have hr1 := tmod_neg x n hn
  have hr2 := tmod_nonneg x n hn
  by_cases hs : x.tmod (n : Int) < 0
  · have hr := hr1 hs
    have HR := hide hr
    clear hr hr1 hr2
    go_enter Try.func8, Try.ntmps8
    go_wp2
    go_ret
    exact ⟨by rw [← HR.out]; rfl, rfl⟩
  · have hs2 : 0 ≤ x.tmod (n : Int) := by omega
    have hr := hr2 hs2
    have HR := hide hr
    clear hr hr1 hr2
    go_enter Try.func8, Try.ntmps8
    go_wp2
    go_ret
    exact ⟨by rw [← HR.out]; rfl, rfl⟩


/-- What a number fills. -/
def fillB (a : Int) (j : Nat) : Nat := (wrap64 (a + wrap64 ((j : Int) * a.tmod 5)) % 256).toNat
theorem fillB_cast (a : Int) (j : Nat) : wrap64 (a + wrap64 ((j : Int) * a.tmod 5)) % 256 = ((fillB a j : Nat) : Int) := by unfold fillB; omega
def fills (a : Int) (n : Nat) : List Nat := (List.range n).map (fillB a)
theorem fills_length (a : Int) (n : Nat) : (fills a n).length = n := by simp [fills]
def rowF (a : Int) (n j : Nat) : List Nat := fills a j ++ zs (n - j)
theorem rowF_get (a : Int) (n j : Nat) (h : j < n) : (rowF a n j)[j]? = some 0 := by
  rw [rowF, List.getElem?_append_right (by simp [fills_length]), fills_length, Nat.sub_self, zs, List.getElem?_replicate, if_pos (by omega)]
theorem rowF_set (a : Int) (n j : Nat) (h : j < n) : (rowF a n j).set j (fillB a j) = rowF a n (j + 1) := by
  have e : n - j = (n - (j + 1)) + 1 := by omega
  rw [rowF, rowF, List.set_append, fills_length, if_neg (by omega), Nat.sub_self, e, zs, List.replicate_succ, List.set_cons_zero, zs]
  unfold fills
  rw [List.range_succ, List.map_append, List.append_assoc]
  rfl
end Go.Proofs.Ytaopcidkgcekdaa
