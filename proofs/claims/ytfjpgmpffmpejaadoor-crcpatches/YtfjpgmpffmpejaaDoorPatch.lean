/- The contract of crc's Patch. -/
import Derived.Test.YtfjpgmpffmpejaaDoorBytes
namespace Go.Proofs.YtfjpgmpffmpejaaDoor
open Go.RowKit

/-- A row, the first i bytes from the place at' on turned by the bytes of t. -/
def pch (l : List Nat) (at' t : Nat) : Nat → List Nat
  | 0 => l
  | i + 1 => (pch l at' t i).set (at' + i) ((pch l at' t i).getD (at' + i) 0 ^^^ (t / 2 ^ (8 * i) % 256))
theorem pch_length (l : List Nat) (at' t i : Nat) : (pch l at' t i).length = l.length := by
  induction i with
  | zero => rfl
  | succ i ih => rw [pch, List.length_set, ih]
theorem getD_mem {l : List Nat} {i : Nat} (h : i < l.length) : l.getD i 0 ∈ l := by
  rw [List.getD_eq_getElem?_getD, List.getElem?_eq_getElem h]; exact List.getElem_mem h
theorem getD_get {l : List Nat} {i : Nat} (h : i < l.length) : l[i]? = some (l.getD i 0) := by
  rw [List.getD_eq_getElem?_getD, List.getElem?_eq_getElem h]; rfl
theorem pch_bytes {l : List Nat} {at' : Nat} (t : Nat) {i : Nat} (hl : Bytes l) (h : at' + i ≤ l.length) : Bytes (pch l at' t i) := by
  induction i with
  | zero => exact hl
  | succ i ih =>
    have hp := ih (by omega)
    intro x hx
    rw [pch] at hx
    rcases List.mem_or_eq_of_mem_set hx with h1 | h1
    · exact hp x h1
    · rw [h1]
      exact Poly.xor_lt_byte (hp _ (getD_mem (by rw [pch_length]; omega))) (Nat.mod_lt _ (by decide))
theorem pch_LE (l : List Nat) (at' t i : Nat) (h : at' + i ≤ l.length) : Poly.LE (pch l at' t i) = Poly.LE l ^^^ (t % 2 ^ (8 * i)) * 2 ^ (8 * at') := by
  induction i with
  | zero => simp [pch, Nat.mod_one]
  | succ i ih =>
    rw [pch, Poly.LE_set _ _ _ (by rw [pch_length]; omega), ih (by omega), Poly.mod_byte, Poly.xor_mul_pow, Nat.xor_assoc]
    congr 2
    rw [Nat.mul_add, Nat.pow_add, Nat.mul_assoc, Nat.mul_comm (2 ^ (8 * i))]
/-- What Patch answers. -/
def patchL (l : List Nat) (at' want : Nat) : List Nat := pch l at' (Poly.turnOf l at' want) 4
theorem patchL_length (l : List Nat) (at' want : Nat) : (patchL l at' want).length = l.length := pch_length ..
theorem patchL_bytes {l : List Nat} {at' want : Nat} (hl : Bytes l) (h : at' + 4 ≤ l.length) : Bytes (patchL l at' want) := pch_bytes _ hl h
theorem patchL_LE {l : List Nat} {at' want : Nat} (hl : Bytes l) (h : at' + 4 ≤ l.length) (hw : want < 4294967296) : Poly.LE (patchL l at' want) = Poly.LE l ^^^ Poly.turnOf l at' want * 2 ^ (8 * at') := by
  rw [patchL, pch_LE _ _ _ _ h, Nat.mod_eq_of_lt (Poly.turnOf_lt hl hw)]

attribute [local go_sem ↓] Go.wp_at_zero Go.wp_at_succ

set_option maxHeartbeats 400000 in
theorem patch_bad (ao : Option Addr) (n c : Nat) (p want : Int) (w : World) (h : p < 0 ∨ (n : Int) - 4 < p) (hm : n ≤ 140737488355328) :
    Calls Tryd.prog 18 #[.slice ao n c, .int .i64 p, .int .u32 want] w fun e w' => e = .returned (.tuple #[.slice none 0 0, .int .i64 2]) ∧ w' = w := by
  have hw : IntKind.i64.wrap ((n : Int) - 4) = (n : Int) - 4 := by rw [IntKind.wrap_i64]; omega
  by_cases h0 : p < 0
  · clear h
    go_enter Tryd.func18, Tryd.ntmps18
    go_wp2
    go_ret2
    exact ⟨rfl, rfl⟩
  · have h1 : (n : Int) - 4 < p := by omega
    clear h
    go_enter Tryd.func18, Tryd.ntmps18
    go_wp2
    go_ret2
    exact ⟨rfl, rfl⟩

set_option maxHeartbeats 1000000 in
theorem patch_any (ao : Option Addr) (n c at' want : Nat) (xs : List Nat) (w : World) (hn : xs.length = n) (hx : Bytes xs) (hat : At w ao xs) (hnil : ao = none → n = 0 ∧ c = 0) (hT : Tab w) (hm : n ≤ 140737488355328) (ha : at' + 4 ≤ n) (hwant : want < 4294967296) :
    Calls Tryd.prog 18 #[.slice ao n c, .int .i64 (at' : Int), .int .u32 (want : Int)] w fun e w' => ∃ v, e = .returned (.tuple #[v, .int .i64 0]) ∧ w'.ownsRow w.heap.size 5 1 v n (bv (patchL xs at' want)) ∧ w.grownBy w' none := by
  have hw1 : IntKind.i64.wrap ((n : Int) - 4) = (n : Int) - 4 := by rw [IntKind.wrap_i64]; omega
  have hw2 : IntKind.i64.wrap ((n : Int) - (at' : Int)) = ((n - at' : Nat) : Int) := by rw [IntKind.wrap_i64]; omega
  have hi1 : ¬ (n : Int) - 4 < (at' : Int) := by omega
  have hsum := sum_any ao n c xs w hn hx hat hT (by omega)
  have hsl := Poly.more_lt xs (s := 0) (by decide) hx
  have hxor := bits_xor_u32 _ want hsl hwant
  have hmv := fun w => moved_any goes_back (Poly.more 0 xs ^^^ want) 8 (n - at') (Poly.xor_lt32 hsl hwant) (by omega) w
  rw [Poly.behind] at hmv
  have htl := Poly.turnOf_lt (at' := at') hx hwant
  have ht : Poly.unsteps (8 * (n - at')) (Poly.more 0 xs ^^^ want) = Poly.turnOf xs at' want := by rw [Poly.turnOf, hn]
  rw [ht] at hmv
  clear ht
  have hp : patchL xs at' want = pch xs at' (Poly.turnOf xs at' want) 4 := rfl
  obtain ⟨R, hR⟩ : ∃ R, R = patchL xs at' want := ⟨_, rfl⟩
  rw [← hR] at hp ⊢
  clear hR
  generalize Poly.turnOf xs at' want = t at *
  generalize Poly.more 0 xs ^^^ want = y at *
  generalize Poly.more 0 xs = s at *
  have HS := hide hsum
  have HMV := hide hmv
  have HA := hide (And.intro hn (And.intro hx (And.intro hat hnil)))
  have HP := hide hp
  clear hsum hmv hn hx hat hnil hT hp
  have hd : n - at' ≤ 140737488355328 := by omega
  go_enter Tryd.func18, Tryd.ntmps18
  go_wp2_with fail
  refine HS.out.mono ?_
  rintro e w1 ⟨rfl, rfl⟩
  go_wp2_with fail
  refine (HMV.out _).mono ?_
  rintro e w1 ⟨rfl, rfl⟩
  clear HS HMV hxor hw2
  go_wp2_with fail
  obtain ⟨hn, hx, hat, hnil⟩ := HA.out
  refine (clone_any ao n c xs _ hn hat hnil hm).mono ?_
  rintro e w2 ⟨v, rfl, hown, hg⟩
  obtain ⟨ao', cap', rfl, _, hnc, hcm, hat', hnil', h5⟩ := own_at hown
  obtain ⟨a', rfl⟩ : ∃ a', ao' = some a' := by
    cases ao' with
    | none => have := (hnil' rfl).1; omega
    | some a' => exact ⟨a', rfl⟩
  obtain ⟨ha', hb1, hb2⟩ := h5 a' rfl
  obtain ⟨g, hg0⟩ : ∃ g, g = a'.block := ⟨_, rfl⟩
  rw [← hg0] at ha' hb1 hb2
  subst ha'
  have HO := hide (And.intro hown hg)
  clear hown hg hat' hnil' h5 hn hx hat hnil hg0
  unfold maxLen at hcm
  go_wp2
  go_loopg [10, 31] 4 (fun k _ i wr => ∃ j : Nat, k + j = 4 ∧ i = .int .i64 j ∧ wr.ownsRow w1.heap.size 5 1 (.slice (some ⟨g, 0, none⟩) n cap') n (bv (pch xs at' t j)) ∧ w1.grownBy wr none)
  case atStart => exact ⟨0, rfl, rfl, HO.out.1, HO.out.2⟩
  case round =>
    obtain ⟨j, hkj, rfl, hown, hg⟩ := hrel
    clear HO
    by_cases hk : 0 < gk
    · obtain ⟨hn, hx, hat, hnil⟩ := HA.out
      have hlen : at' + j < (pch xs at' t j).length := by rw [pch_length, hn]; omega
      have hby := pch_bytes t (i := j) hx (show at' + j ≤ xs.length by omega) _ (getD_mem hlen)
      have hcell := hown.cellAt (at' + j) (by omega)
      rw [bv_get _ _ _ (getD_get hlen)] at hcell
      have hfr := hown.frozenAt (at' + j)
      have hq : t / 2 ^ (8 * j) % 256 < 256 := Nat.mod_lt _ (by decide)
      have hxo := bits_xor_u8 _ _ hby hq
      have HN : Hid (pch xs at' t (j + 1) = (pch xs at' t j).set (at' + j) ((pch xs at' t j).getD (at' + j) 0 ^^^ (t / 2 ^ (8 * j) % 256))) := rfl
      have hcv : (t : Int) / 2 ^ (8 * j) % 256 = ((t / 2 ^ (8 * j) % 256 : Nat) : Int) := by simp
      generalize (pch xs at' t j).getD (at' + j) 0 ^^^ (t / 2 ^ (8 * j) % 256) = z at *
      generalize (pch xs at' t j).getD (at' + j) 0 = x at *
      generalize t / 2 ^ (8 * j) % 256 = q at *
      have hw3 : IntKind.i64.wrap ((at' : Int) + (j : Int)) = ((at' + j : Nat) : Int) := by rw [IntKind.wrap_i64]; omega
      have hw4 : IntKind.i64.wrap (8 * (j : Int)) = ((8 * j : Nat) : Int) := by rw [IntKind.wrap_i64]; omega
      have hlt : ((at' + j : Nat) : Int) < (n : Int) := by omega
      have HO2 := hide (And.intro hown hg)
      clear hown hg hn hx hat hnil hlen
      go_wp2
      go_region
      go_wp2
      go_roundg (gk - 1)
      case measure => omega
      case rel =>
        obtain ⟨hown, hg⟩ := HO2.out
        have hst := hown.stored (at' + j) (.int .u8 (z : Int))
        refine ⟨j + 1, by omega, by go_num, ?_, grown_then hg (grown_trans hst.2 (grown_drew _ _)) (fun k e => by cases e; exact Or.inl hb1)⟩
        rw [HN.out, bv_set]
        exact hst.1.drew
    · have hj : j = 4 := by omega
      subst hj
      have HO2 := hide (And.intro hown hg)
      clear hown hg
      go_wp2
      go_ret2
      exact ⟨_, rfl, by rw [HP.out]; exact HO2.out.1, HO2.out.2⟩
end Go.Proofs.YtfjpgmpffmpejaaDoor
