/- Texts joined: FRead3, FKit, FCPoly, FCPoly2, FCBase, FCStep, FCMore, FHd0. -/
import Derived.Test.YtonokaelbpfjnabGreatDoorJkAh
import Derived.WalkKit
import Derived.WalkSpells
import Derived.WalkLawsBesides
import Derived.Laws.CopyOwn
import Derived.Laws.Bits64b
import Derived.Laws.Bits64
import Derived.Deep.MidRow
import Derived.Test.YtonokaelbpfjnabGreatDoorChecked
import Derived.Deep.LoopGhost
import Derived.Deep.RegionHeld3
import Derived.Deep.DrawnRows
import Derived.Deep.QuietTactic
import Derived.Deep.RegionWith
import Derived.BigQuiet
import Derived.Deep.OwnRows
/- The contracts of a Reader's calls: numbers, Take, Left, Err, End; of Of. -/
namespace Go.Proofs.YtonokaelbpfjnabGreatDoor.Fm
open Go.RowKit

theorem own_base {w : World} {base base' n : Nat} {v : Value} {xs : List Value} {e : TypeId} {size : Nat} (h : w.ownsRow base' e size v n xs) (hb : base ≤ base') : w.ownsRow base e size v n xs := by
  obtain ⟨h1, h2⟩ := h
  refine ⟨h1, ?_⟩
  rcases h2 with h2 | ⟨g, cap, cur, hv, hg, r⟩
  · exact Or.inl h2
  · exact Or.inr ⟨g, cap, cur, hv, Nat.le_trans hb hg, r⟩

theorem takeF_bytes {xs : List Int} (h : Byt xs) (e n : Int) : Byt (takeF xs e n).1 ∧ Byt (takeF xs e n).2.1 := by
  refine ⟨fun x hx => h x ((takeF_given xs e n).2 x hx), ?_⟩
  unfold takeF
  split
  · exact h
  · split
    · intro x hx; cases hx
    · split
      · intro x hx; cases hx
      · exact h.drop _

theorem takeF_value {xs : List Int} (h : Byt xs) (e : Int) (k : Nat) : 0 ≤ leV (takeF xs e k).1 ∧ leV (takeF xs e k).1 < 2 ^ (8 * k) := by
  have h1 := leV_bound _ (takeF_bytes h e k).1
  have h2 := (takeF_given xs e k).1
  refine ⟨h1.1, Int.lt_of_lt_of_le h1.2 ?_⟩
  have h3 : (takeF xs e k).1.length ≤ k := by omega
  have h4 : (2 : Nat) ^ (8 * (takeF xs e k).1.length) ≤ 2 ^ (8 * k) := Nat.pow_le_pow_right (by omega) (by omega)
  have h5 : ((2 ^ (8 * (takeF xs e k).1.length) : Nat) : Int) ≤ ((2 ^ (8 * k) : Nat) : Int) := Int.ofNat_le.2 h4
  simpa using h5

set_option maxHeartbeats 400000 in
theorem rfour_any (b : Nat) (xs : List Int) (e : Int) (w : World) (hR : RdAt w b xs e) (hB : Byt xs) :
    Calls Tryz.prog 92 #[.pointer (some ⟨b, 0, none⟩)] w fun r w' => r = .returned (.int .u32 (leV (takeF xs e 4).1)) ∧ RdAt w' b (takeF xs e 4).2.1 (takeF xs e 4).2.2 ∧ w.grownBy w' (some b) := by
  have hv := takeF_value hB e 4
  have hr := rnum_any b xs e 4 4 w hR hB rfl (by omega)
  simp only [show (((4 : Nat) : Int)) = 4 from rfl] at hv
  have hv1 : leV (takeF xs e 4).1 < 4294967296 := hv.2
  have hv0 := hv.1
  clear hv
  generalize leV (takeF xs e 4).1 = V at *
  have HR := hide hr
  clear hr
  go_enter Tryz.func92, Tryz.ntmps92
  go_wp2_with fail
  refine HR.out.mono ?_
  rintro e1 w1 ⟨rfl, hR', hg⟩
  go_wp2
  go_ret
  exact ⟨rfl, hR', hg⟩
set_option maxHeartbeats 400000 in
theorem reight_any (b : Nat) (xs : List Int) (e : Int) (w : World) (hR : RdAt w b xs e) (hB : Byt xs) :
    Calls Tryz.prog 91 #[.pointer (some ⟨b, 0, none⟩)] w fun r w' => r = .returned (.int .u64 (leV (takeF xs e 8).1)) ∧ RdAt w' b (takeF xs e 8).2.1 (takeF xs e 8).2.2 ∧ w.grownBy w' (some b) := by
  have hv := takeF_value hB e 8
  have hr := rnum_any b xs e 8 8 w hR hB rfl (by omega)
  simp only [show (((8 : Nat) : Int)) = 8 from rfl] at hv
  have hv1 : leV (takeF xs e 8).1 < 18446744073709551616 := hv.2
  have hv0 := hv.1
  clear hv
  generalize leV (takeF xs e 8).1 = V at *
  have HR := hide hr
  clear hr
  go_enter Tryz.func91, Tryz.ntmps91
  go_wp2_with fail
  refine HR.out.mono ?_
  rintro e1 w1 ⟨rfl, hR', hg⟩
  go_wp2
  go_ret
  exact ⟨rfl, hR', hg⟩
/-- What End answers. -/
def endF (xs : List Int) (e : Int) : Int := if e ≠ 0 then e else if xs = [] then 0 else 5
set_option maxHeartbeats 400000 in
theorem take_any (b : Nat) (xs : List Int) (e n : Int) (w : World) (hR : RdAt w b xs e) (hm1 : -9223372036854775808 ≤ n) (hm2 : n ≤ 9223372036854775807) (hl : xs.length ≤ 140737488355328) :
    Calls Tryz.prog 90 #[.pointer (some ⟨b, 0, none⟩), .int .i64 n] w fun r w' => ∃ v, r = .returned v ∧ w'.ownsRow w.heap.size 5 1 v (takeF xs e n).1.length ((takeF xs e n).1.map (Value.int .u8)) ∧ RdAt w' b (takeF xs e n).2.1 (takeF xs e n).2.2 ∧ w.grownBy w' (some b) := by
  have hnx := next_any b xs e n w hR hm1 hm2
  have hgl : (takeF xs e n).1.length ≤ xs.length := by
    unfold takeF
    repeat (first | (split) | (simp; omega) | simp)
  obtain ⟨⟨G, R, E⟩, hT⟩ : ∃ p, takeF xs e n = p := ⟨_, rfl⟩
  rw [hT] at hnx hgl ⊢
  simp only at hnx hgl ⊢
  have HN := hide hnx
  have hgl2 : G.length ≤ 140737488355328 := by omega
  clear hT hnx hgl
  go_enter Tryz.func90, Tryz.ntmps90
  go_wp2_with fail
  refine HN.out.mono ?_
  rintro e1 w1 ⟨v, rfl, hG, hR', hg⟩
  obtain ⟨ao, cap, rfl, hl', hcm, hat, ho, hn, h5⟩ := hG
  have H := hide (And.intro hR' (And.intro hg (And.intro hat (And.intro ho (And.intro hn h5)))))
  clear hR' hg hat ho hn h5 HN
  go_wp2_with fail
  refine (clone_any ao G.length cap G _ rfl H.out.2.2.1 (fun e => ?_) hgl2).mono ?_
  · have h0 := H.out.2.2.2.2.1 e
    omega
  rintro e1 w2 ⟨v, rfl, hown, hg2⟩
  obtain ⟨ao', cap', rfl, hr⟩ := own_at hown
  clear hr
  go_wp2
  go_ret
  obtain ⟨hR', hg, hat, ho, hn, h5⟩ := H.out
  exact ⟨_, rfl, own_base hown hg.size, hR'.kept hg2 (by simp) (NoBytes.none _), grown_trans hg (grown_none hg2 _)⟩

set_option maxHeartbeats 400000 in
theorem of_any (ao : Option Addr) (n cap : Nat) (xs : List Int) (w : World) (hn : xs.length = n) (hat : At w ao xs) (hnil : ao = none → n = 0 ∧ cap = 0) (hb : n ≤ 140737488355328) :
    Calls Tryz.prog 89 #[.slice ao n cap] w fun r w' => ∃ B, r = .returned (.pointer (some ⟨B, 0, none⟩)) ∧ w.heap.size ≤ B ∧ RdAt w' B xs 0 ∧ w.grownBy w' none := by
  have Hn := hide hn
  clear hn
  go_enter Tryz.func89, Tryz.ntmps89
  go_wp2_with fail
  refine (clone_any ao n cap xs _ Hn.out hat hnil hb).mono ?_
  rintro e1 w1 ⟨v, rfl, hown, hg⟩
  obtain ⟨ao', cap', rfl, hl, hnc, hcm, hat', hnil', h5⟩ := own_at hown
  have H := hide (And.intro hl (And.intro hnc (And.intro hcm (And.intro hat' (And.intro hnil' (And.intro h5 hg))))))
  clear hl hnc hcm hat' hnil' h5 hg hown
  go_wp2
  go_ret
  obtain ⟨hl, hnc, hcm, hat', hnil', h5, hg⟩ := H.out
  have hga := World.grownBy_alloc w1 (.cells (rrow ao' xs.length cap' 0).toArray 258) none
  refine ⟨w1.heap.size, rfl, hg.size, ⟨ao', cap', ?_, by omega, hcm, ?_, ?_, fun e => (hnil' e).2, fun h => absurd rfl h, ?_⟩, ?_⟩
  · rw [hl]; exact heap_alloc_new w1 _
  · rw [← hl]; exact hat'.kept hga (by simp)
  · intro a ha e; have := (h5 a ha).2.1; omega
  · intro a ha
    obtain ⟨_, hlt, c, hc⟩ := h5 a ha
    exact ⟨c, (Below.heap_alloc _ _ _ hlt).trans hc⟩
  · exact grown_trans hg (World.grownBy_alloc w1 _ _)
end Go.Proofs.YtonokaelbpfjnabGreatDoor.Fm
/- The contracts of the statements' own helpers for bytes: SameBytes, CopyBytes. -/
namespace Go.Proofs.YtonokaelbpfjnabGreatDoor.Fm
open Go.RowKit
attribute [local go_sem ↓] Go.wp_at_zero Go.wp_at_succ

set_option maxHeartbeats 1000000 in
theorem same_eq (ao bo : Option Addr) (n c d : Nat) (xs : List Int) (w : World) (hn : xs.length = n) (ha : At w ao xs) (hb : At w bo xs) (hm : n ≤ 4611686018427387904) :
    Calls Tryz.prog 13 #[.slice ao n c, .slice bo n d] w fun e w' => e = .returned (.bool true) ∧ w.grownBy w' none := by
  have HA := hide (And.intro hn (And.intro ha hb))
  clear hn ha hb
  go_enter Tryz.func13, Tryz.ntmps13
  go_wp2
  go_loopg [5] n (fun k i wr => ∃ j : Nat, k + j = n ∧ i = .int .i64 j ∧ w.grownBy wr none)
  case atStart => exact ⟨0, by omega, rfl, grown_refl _ _⟩
  case round =>
    obtain ⟨j, hkj, rfl, hg⟩ := hrel
    by_cases hk : 0 < gk
    · obtain ⟨hn, ha, hb⟩ := HA.out
      have hj : j < xs.length := by omega
      obtain ⟨a, rfl, hca⟩ := ha j xs[j] (by simp [hj])
      obtain ⟨b, rfl, hcb⟩ := hb j xs[j] (by simp [hj])
      have hca' := hg.cell hca (by simp)
      have hcb' := hg.cell hcb (by simp)
      have h1 : (0 : Int) ≤ (j : Int) := by omega
      have h2 : (j : Int) < (n : Int) := by omega
      generalize xs[j] = x at *
      clear hn ha hb hca hcb hj
      go_wp2
      go_region_held3 (fun w' => w'.cell? (a.add j) = some (.int .u8 x) ∧ w'.cell? (b.add j) = some (.int .u8 x)) (go_keep) (fail)
      go_wp2
      go_roundg (gk - 1)
      case measure => omega
      case rel => exact ⟨j + 1, by omega, by go_num, grown_trans hg (grown_drew _ _)⟩
    · have hj : j = n := by omega
      subst hj
      go_wp2
      go_ret
      exact ⟨rfl, hg⟩

set_option maxHeartbeats 400000 in
theorem copy_any (ao : Option Addr) (n cap : Nat) (xs : List Int) (w : World) (hn : xs.length = n) (hat : At w ao xs) (hnil : ao = none → n = 0 ∧ cap = 0) (hb : n ≤ 140737488355328) :
    Calls Tryz.prog 11 #[.slice ao n cap] w fun e w' => ∃ v, e = .returned v ∧ w'.ownsRow w.heap.size 5 1 v n (xs.map (Value.int .u8)) ∧ w.grownBy w' none := by
  have Hn := hide hn
  clear hn
  go_enter Tryz.func11, Tryz.ntmps11
  go_wp2_with (at_builtin; refine wpList_append_at rfl (.tmp 4) (.tmp 5) rfl w.heap.size (.slice none 0 0) 0 [] rfl (World.ownsRow_nil _ _ _ _) ao n cap xs rfl Hn.out hat hnil (by omega) (Nat.le_refl _) ?_)
  intro v' w' hown hg
  obtain ⟨ao', cap', rfl, hr⟩ := own_at hown
  clear hr
  go_wp2
  go_ret
  exact ⟨_, rfl, by simpa using hown, grown_then (grown_refl w none) hg (fun k e => by cases e)⟩

/-- A Writer that has just been made. -/
theorem wr_new (w : World) (C : Array Value) (hC : C = (wrow (.pointer none) (List.replicate 64 0) 0).toArray) : WrAt (w.alloc (.cells C 94)) w.heap.size [] := by
  subst hC
  exact ⟨.pointer none, [], List.replicate 64 0, heap_alloc_new w _, by simp, rfl, by simp⟩

theorem zero53 : Tryz.zeroCells94 = (wrow (.pointer none) (List.replicate 64 0) 0).toArray := by kernel_rfl
theorem wr_zero (w : World) : WrAt (w.alloc (.cells Tryz.zeroCells94 94)) w.heap.size [] := wr_new w _ zero53

/-- A row of bytes that has just been laid. -/
theorem at_new (w : World) (xs : List Int) (C : Array Value) (hC : C = (xs.map (Value.int .u8)).toArray) : At (w.alloc (.cells C 5)) (some ⟨w.heap.size, 0, none⟩) xs := by
  subst hC
  intro j u hu
  refine ⟨_, rfl, ?_⟩
  rw [Addr.add_lit, Nat.zero_add, cell_row (heap_alloc_new w _), List.getElem?_map, hu]; rfl
/-- A row of bytes that is known whole. -/
theorem at_row {w : World} {A : Nat} {xs : List Int} {t : TypeId} (h : w.heap[A]? = some (.cells (xs.map (Value.int .u8)).toArray t (0, 0))) : At w (some ⟨A, 0, none⟩) xs := by
  intro j u hu
  refine ⟨_, rfl, ?_⟩
  rw [Addr.add_lit, Nat.zero_add, cell_row h, List.getElem?_map, hu]; rfl
theorem leB_258 : leB 258 2 = [2, 1] := by decide
theorem byt_123 : Byt [1, 2, 3] := by intro x hx; simp at hx; omega

end Go.Proofs.YtonokaelbpfjnabGreatDoor.Fm
/- Steps, products and sums of crc, as arithmetic of numbers alone. -/
namespace Go.Proofs.YtonokaelbpfjnabGreatDoor.Fm.Cr.Poly

def step (r : Nat) : Nat := if r % 2 = 1 then r / 2 ^^^ 3988292384 else r / 2

theorem xor_mod2 (a b : Nat) : (a ^^^ b) % 2 = (a + b) % 2 := by
  have h := @Nat.xor_mod_two_eq_one a b
  have h2 := Nat.mod_two_eq_zero_or_one (a ^^^ b)
  rcases Nat.mod_two_eq_zero_or_one a with ha | ha <;> rcases Nat.mod_two_eq_zero_or_one b with hb | hb <;> rw [ha, hb] at h <;> generalize (a ^^^ b) % 2 = c at * <;> omega

theorem xor_div2 (a b : Nat) : (a ^^^ b) / 2 = a / 2 ^^^ b / 2 := Nat.xor_div_two

theorem xor_swap (a b c : Nat) : a ^^^ b ^^^ c = a ^^^ c ^^^ b := by rw [Nat.xor_assoc, Nat.xor_comm b, ← Nat.xor_assoc]

theorem step_xor (a b : Nat) : step (a ^^^ b) = step a ^^^ step b := by
  unfold step
  rw [xor_mod2, xor_div2]
  rcases Nat.mod_two_eq_zero_or_one a with ha | ha <;> rcases Nat.mod_two_eq_zero_or_one b with hb | hb
  · rw [if_neg (by omega), if_neg (by omega), if_neg (by omega)]
  · rw [if_pos (by omega), if_neg (by omega), if_pos (by omega), Nat.xor_assoc]
  · rw [if_pos (by omega), if_pos (by omega), if_neg (by omega), xor_swap]
  · rw [if_neg (by omega), if_pos (by omega), if_pos (by omega), xor_swap (a / 2), ← Nat.xor_assoc, Nat.xor_assoc (a / 2 ^^^ b / 2), Nat.xor_self, Nat.xor_zero]

theorem xor_lt32 {a b : Nat} (ha : a < 4294967296) (hb : b < 4294967296) : a ^^^ b < 4294967296 := by
  have := @Nat.xor_lt_two_pow a b 32 (by simpa using ha) (by simpa using hb); simpa using this

theorem step_lt {r : Nat} (h : r < 4294967296) : step r < 4294967296 := by
  unfold step; split
  · exact xor_lt32 (by omega) (by decide)
  · omega

theorem step_zero : step 0 = 0 := by decide

def steps : Nat → Nat → Nat
  | 0, r => r
  | k + 1, r => steps k (step r)

theorem steps_xor (k a b : Nat) : steps k (a ^^^ b) = steps k a ^^^ steps k b := by
  induction k generalizing a b with
  | zero => rfl
  | succ k ih => rw [steps, steps, steps, step_xor, ih]

theorem steps_lt (k : Nat) {r : Nat} (h : r < 4294967296) : steps k r < 4294967296 := by
  induction k generalizing r with
  | zero => exact h
  | succ k ih => exact ih (step_lt h)

theorem steps_zero (k : Nat) : steps k 0 = 0 := by
  induction k with
  | zero => rfl
  | succ k ih => rw [steps, step_zero, ih]

theorem steps_add (j k r : Nat) : steps (j + k) r = steps j (steps k r) := by
  induction k generalizing r with
  | zero => rfl
  | succ k ih => rw [Nat.add_succ, steps, steps, ih]

theorem steps_step (k r : Nat) : steps k (step r) = step (steps k r) := by
  have h1 : steps k (step r) = steps (k + 1) r := rfl
  rw [h1, Nat.add_comm, steps_add]; rfl

/-- a number whose lowest bits are nought is only shifted -/
theorem steps_mul (k c : Nat) : steps k (c * 2 ^ k) = c := by
  induction k with
  | zero => simp [steps]
  | succ k ih =>
    have : step (c * 2 ^ (k + 1)) = c * 2 ^ k := by
      unfold step
      rw [Nat.pow_succ, ← Nat.mul_assoc]; rw [if_neg (by omega)]; omega
    rw [steps, this, ih]

theorem low_high (r k : Nat) : (r / 2 ^ k * 2 ^ k) ^^^ (r % 2 ^ k) = r := by
  apply Nat.eq_of_testBit_eq
  intro i
  rw [Nat.testBit_xor, Nat.testBit_mul_two_pow, Nat.testBit_mod_two_pow, Nat.testBit_div_two_pow]
  by_cases h : k ≤ i
  · rw [decide_eq_true h, decide_eq_false (by omega : ¬ i < k)]; simp; congr 1; omega
  · rw [decide_eq_false h, decide_eq_true (by omega : i < k)]; simp

/-- many steps at once: the lowest bits' by themselves -/
theorem steps_split (k r : Nat) : steps k r = r / 2 ^ k ^^^ steps k (r % 2 ^ k) := by
  conv => lhs; rw [← low_high r k]
  rw [steps_xor, steps_mul]

/-! products -/

def mulAcc : Nat → Nat → Nat → Nat → Nat
  | 0, _, _, p => p
  | n + 1, a, b, p => mulAcc n (a * 2 % 4294967296) (step b) (if 2147483648 ≤ a then p ^^^ b else p)

def mul (a b : Nat) : Nat := mulAcc 32 a b 0

theorem mulAcc_nil (n b p : Nat) : mulAcc n 0 b p = p := by
  induction n generalizing b p with
  | zero => rfl
  | succ n ih => rw [mulAcc, if_neg (by decide)]; exact ih _ _

theorem mulAcc_step (n a b p : Nat) : mulAcc n a (step b) (step p) = step (mulAcc n a b p) := by
  induction n generalizing a b p with
  | zero => rfl
  | succ n ih =>
    rw [mulAcc, mulAcc, ← ih]; congr 1
    split
    · rw [step_xor]
    · rfl

theorem mul_step (a b : Nat) : mul a (step b) = step (mul a b) := by
  unfold mul; rw [← mulAcc_step, step_zero]

theorem mulAcc_lt (n a : Nat) {b p : Nat} (hb : b < 4294967296) (hp : p < 4294967296) : mulAcc n a b p < 4294967296 := by
  induction n generalizing a b p with
  | zero => exact hp
  | succ n ih =>
    rw [mulAcc]; apply ih _ (step_lt hb)
    split
    · exact xor_lt32 hp hb
    · exact hp

theorem mul_lt (a : Nat) {b : Nat} (hb : b < 4294967296) : mul a b < 4294967296 := mulAcc_lt 32 a hb (by decide)

theorem mulAcc_one (n c p : Nat) (hn : n ≤ 32) (hc : c < 2 ^ n) : mulAcc n (c * 2 ^ (32 - n)) (2 ^ (n - 1)) p = p ^^^ c := by
  induction n generalizing c p with
  | zero => have : c = 0 := by simpa using hc
            rw [this]; simp [mulAcc]
  | succ n ih =>
    rw [mulAcc]
    have e1 : 32 - n = (32 - (n + 1)) + 1 := by omega
    have e2 : c * 2 ^ (32 - (n + 1)) * 2 % 4294967296 = (c % 2 ^ n) * 2 ^ (32 - n) := by
      have h32 : (4294967296 : Nat) = 2 ^ n * 2 ^ (32 - n) := by rw [← Nat.pow_add]; rw [show n + (32 - n) = 32 by omega]
      rw [Nat.mul_assoc, ← Nat.pow_succ, ← Nat.succ_eq_add_one, Nat.succ_eq_add_one, ← e1, h32, Nat.mul_mod_mul_right]
    have e3 : (2147483648 ≤ c * 2 ^ (32 - (n + 1))) ↔ 2 ^ n ≤ c := by
      have h31 : (2147483648 : Nat) = 2 ^ n * 2 ^ (32 - (n + 1)) := by rw [← Nat.pow_add]; rw [show n + (32 - (n + 1)) = 31 by omega]
      rw [h31]; exact ⟨fun h => Nat.le_of_mul_le_mul_right h (Nat.two_pow_pos _), fun h => Nat.mul_le_mul_right _ h⟩
    have hx : c = (if 2 ^ n ≤ c then 2 ^ n else 0) ^^^ (c % 2 ^ n) := by
      conv => lhs; rw [← low_high c n]
      congr 1
      have hlt : c / 2 ^ n < 2 := by rw [Nat.div_lt_iff_lt_mul (Nat.two_pow_pos n)]; rw [Nat.pow_succ] at hc; omega
      split
      · rename_i h
        have : 0 < c / 2 ^ n := Nat.div_pos h (Nat.two_pow_pos n)
        rw [show c / 2 ^ n = 1 by omega, Nat.one_mul]
      · rename_i h
        rw [Nat.div_eq_of_lt (by omega), Nat.zero_mul]
    cases n with
    | zero =>
      rw [mulAcc]
      have hc2 : c < 2 := by simpa using hc
      have : c = 0 ∨ c = 1 := by omega
      rcases this with rfl | rfl
      · simp
      · simp
    | succ m =>
      have e4 : step (2 ^ (m + 1 + 1 - 1)) = 2 ^ (m + 1 - 1) := by
        have := steps_mul 1 (2 ^ m)
        simp only [steps, Nat.pow_one] at this
        rw [show m + 1 + 1 - 1 = m + 1 by omega, show m + 1 - 1 = m by omega, Nat.pow_succ]; exact this
      rw [e2, e4, ih (c % 2 ^ (m + 1)) _ (by omega) (Nat.mod_lt _ (Nat.two_pow_pos _))]
      conv => rhs; rw [hx]
      simp only [e3]
      rw [show m + 1 + 1 - 1 = m + 1 by omega]
      split
      · rw [Nat.xor_assoc]
      · rw [Nat.zero_xor]

theorem mul_one (a : Nat) (ha : a < 4294967296) : mul a 2147483648 = a := by
  have := mulAcc_one 32 a 0 (by decide) (by simpa using ha)
  simpa [mul] using this

theorem mul_steps (k a : Nat) (ha : a < 4294967296) : mul a (steps k 2147483648) = steps k a := by
  induction k with
  | zero => exact mul_one a ha
  | succ k ih => rw [steps, steps_step, mul_step, ih, steps, steps_step]

/-! back -/

def unstep (r : Nat) : Nat := if 2147483648 ≤ r then ((r ^^^ 3988292384) * 2 + 1) % 4294967296 else r * 2

theorem testBit_31 (r : Nat) (h : r < 4294967296) : r.testBit 31 = decide (2147483648 ≤ r) := by
  have h1 : r / 2147483648 < 2 := by omega
  rw [Nat.testBit_eq_decide_div_mod_eq, show (2 : Nat) ^ 31 = 2147483648 by decide]
  congr 1; apply propext; omega

theorem lt31 {r : Nat} (h : r < 4294967296) : r < 2147483648 ↔ r.testBit 31 = false := by
  rw [testBit_31 r h, decide_eq_false_iff_not]; omega

theorem unstep_lt {r : Nat} (h : r < 4294967296) : unstep r < 4294967296 := by
  unfold unstep; split <;> omega

theorem step_unstep {r : Nat} (h : r < 4294967296) : step (unstep r) = r := by
  unfold unstep; split
  · rename_i h1
    have hx : r ^^^ 3988292384 < 4294967296 := xor_lt32 h (by decide)
    have h2 : r ^^^ 3988292384 < 2147483648 := by
      rw [lt31 hx, Nat.testBit_xor, testBit_31 r h, decide_eq_true h1]; decide
    unfold step
    rw [if_pos (by omega), show ((r ^^^ 3988292384) * 2 + 1) % 4294967296 / 2 = r ^^^ 3988292384 by omega, Nat.xor_assoc, Nat.xor_self, Nat.xor_zero]
  · unfold step; rw [if_neg (by omega)]; omega

theorem unstep_step {r : Nat} (h : r < 4294967296) : unstep (step r) = r := by
  unfold step; split
  · rename_i h1
    have hx : r / 2 ^^^ 3988292384 < 4294967296 := xor_lt32 (by omega) (by decide)
    have h2 : 2147483648 ≤ r / 2 ^^^ 3988292384 := by
      have h3 : (r / 2).testBit 31 = false := (lt31 (by omega)).1 (by omega)
      have : ¬ (r / 2 ^^^ 3988292384) < 2147483648 := by
        rw [lt31 hx, Nat.testBit_xor, h3]; decide
      omega
    unfold unstep; rw [if_pos h2, Nat.xor_assoc, Nat.xor_self, Nat.xor_zero]; omega
  · unfold unstep; rw [if_neg (by omega)]; omega

theorem unstep_xor {a b : Nat} (ha : a < 4294967296) (hb : b < 4294967296) : unstep (a ^^^ b) = unstep a ^^^ unstep b := by
  have := unstep_step (xor_lt32 (unstep_lt ha) (unstep_lt hb))
  rw [step_xor, step_unstep ha, step_unstep hb] at this
  exact this

def unsteps : Nat → Nat → Nat
  | 0, r => r
  | k + 1, r => unsteps k (unstep r)

theorem unsteps_lt (k : Nat) {r : Nat} (h : r < 4294967296) : unsteps k r < 4294967296 := by
  induction k generalizing r with
  | zero => exact h
  | succ k ih => exact ih (unstep_lt h)

theorem unsteps_add (j k r : Nat) : unsteps (j + k) r = unsteps j (unsteps k r) := by
  induction k generalizing r with
  | zero => rfl
  | succ k ih => rw [Nat.add_succ, unsteps, unsteps, ih]

theorem unsteps_unstep (k r : Nat) : unsteps k (unstep r) = unstep (unsteps k r) := by
  have h1 : unsteps k (unstep r) = unsteps (k + 1) r := rfl
  rw [h1, Nat.add_comm, unsteps_add]; rfl

theorem unsteps_xor (k : Nat) {a b : Nat} (ha : a < 4294967296) (hb : b < 4294967296) : unsteps k (a ^^^ b) = unsteps k a ^^^ unsteps k b := by
  induction k generalizing a b with
  | zero => rfl
  | succ k ih => rw [unsteps, unsteps, unsteps, unstep_xor ha hb, ih (unstep_lt ha) (unstep_lt hb)]

theorem unsteps_steps (k : Nat) {r : Nat} (h : r < 4294967296) : unsteps k (steps k r) = r := by
  induction k generalizing r with
  | zero => rfl
  | succ k ih => rw [steps, steps_step, unsteps, unstep_step (steps_lt k h), ih h]

theorem steps_unsteps (k : Nat) {r : Nat} (h : r < 4294967296) : steps k (unsteps k r) = r := by
  induction k generalizing r with
  | zero => rfl
  | succ k ih => rw [unsteps, steps, steps_step, ih (unstep_lt h), step_unstep h]

theorem mul_unstep (a : Nat) {b : Nat} (hb : b < 4294967296) : mul a (unstep b) = unstep (mul a b) := by
  have := mul_step a (unstep b)
  rw [step_unstep hb] at this
  rw [this, unstep_step (mul_lt a (unstep_lt hb))]

theorem mul_unsteps (k a : Nat) (ha : a < 4294967296) : mul a (unsteps k 2147483648) = unsteps k a := by
  induction k with
  | zero => exact mul_one a ha
  | succ k ih => rw [unsteps, unsteps_unstep, mul_unstep a (unsteps_lt k (by decide)), ih, unsteps, unsteps_unstep]

theorem ahead : steps 8 2147483648 = 8388608 := by decide
theorem behind : unsteps 8 2147483648 = 1701301141 := by decide

end Go.Proofs.YtonokaelbpfjnabGreatDoor.Fm.Cr.Poly
/- Sums of rows of bytes, as arithmetic of numbers alone: a row is one great number, its bits in order. -/
namespace Go.Proofs.YtonokaelbpfjnabGreatDoor.Fm.Cr.Poly

theorem nib (r : Nat) : r / 16 ^^^ steps 4 (r % 16) = steps 4 r := (steps_split 4 r).symm

def byteStep (r b : Nat) : Nat := steps 8 (r ^^^ b)
def run (r : Nat) (l : List Nat) : Nat := l.foldl byteStep r
def more (s : Nat) (l : List Nat) : Nat := run (4294967295 ^^^ s) l ^^^ 4294967295

theorem run_nil (r : Nat) : run r [] = r := rfl
theorem run_cons (r b : Nat) (l : List Nat) : run r (b :: l) = run (byteStep r b) l := rfl
theorem run_append (r : Nat) (l m : List Nat) : run r (l ++ m) = run (run r l) m := List.foldl_append ..

theorem xor_lt_byte {a b : Nat} (ha : a < 256) (hb : b < 256) : a ^^^ b < 256 := by
  have := @Nat.xor_lt_two_pow a b 8 (by simpa using ha) (by simpa using hb); simpa using this

theorem run_lt (l : List Nat) {r : Nat} (hr : r < 4294967296) (h : ∀ x ∈ l, x < 256) : run r l < 4294967296 := by
  induction l generalizing r with
  | nil => exact hr
  | cons b l ih =>
    rw [run_cons]
    exact ih (steps_lt 8 (xor_lt32 hr (by have := h b (by simp); omega))) (fun x hx => h x (by simp [hx]))

theorem more_lt {s : Nat} (l : List Nat) (hs : s < 4294967296) (h : ∀ x ∈ l, x < 256) : more s l < 4294967296 :=
  xor_lt32 (run_lt l (xor_lt32 (by decide) hs) h) (by decide)

/-- the row's bits in order, as one number -/
def LE : List Nat → Nat
  | [] => 0
  | b :: l => b ^^^ LE l * 256

theorem run_eq (l : List Nat) (r : Nat) : run r l = steps (8 * l.length) (r ^^^ LE l) := by
  induction l generalizing r with
  | nil => simp [run_nil, LE, steps]
  | cons b l ih =>
    have h : steps 8 (LE l * 256) = LE l := steps_mul 8 _
    rw [run_cons, ih, List.length_cons, Nat.mul_add, Nat.mul_one, steps_add, LE, ← Nat.xor_assoc, steps_xor 8, h]; rfl

theorem xor_cancel (a b : Nat) : a ^^^ b ^^^ b = a := by rw [Nat.xor_assoc, Nat.xor_self, Nat.xor_zero]
theorem xor_cancel' (a b : Nat) : b ^^^ (b ^^^ a) = a := by rw [← Nat.xor_assoc, Nat.xor_self, Nat.zero_xor]

theorem xor_mul_pow (a b k : Nat) : (a ^^^ b) * 2 ^ k = a * 2 ^ k ^^^ b * 2 ^ k := by
  apply Nat.eq_of_testBit_eq; intro i
  simp only [Nat.testBit_xor, Nat.testBit_mul_two_pow]
  by_cases h : k ≤ i <;> simp [h]

theorem xor_mul256 (a b : Nat) : (a ^^^ b) * 256 = a * 256 ^^^ b * 256 := xor_mul_pow a b 8

/-- bits that are turned in one byte are turned in the row's number -/
theorem LE_set (l : List Nat) (i v : Nat) (hi : i < l.length) : LE (l.set i (l.getD i 0 ^^^ v)) = LE l ^^^ v * 2 ^ (8 * i) := by
  induction l generalizing i with
  | nil => exact absurd hi (by simp)
  | cons b l ih =>
    cases i with
    | zero => simp only [List.set_cons_zero, List.getD_cons_zero, LE, Nat.mul_zero, Nat.pow_zero, Nat.mul_one]; rw [xor_swap]
    | succ i =>
      simp only [List.length_cons] at hi
      simp only [List.set_cons_succ, List.getD_cons_succ, LE]
      rw [ih i (by omega), xor_mul256, Nat.xor_assoc, Nat.mul_add, Nat.mul_one, Nat.pow_add, Nat.mul_assoc]

theorem LE_inj {l m : List Nat} (hl : ∀ x ∈ l, x < 256) (hm : ∀ x ∈ m, x < 256) (hn : l.length = m.length) (h : LE l = LE m) : l = m := by
  induction l generalizing m with
  | nil => exact (List.length_eq_zero_iff.1 hn.symm).symm
  | cons b l ih =>
    cases m with
    | nil => simp at hn
    | cons c m =>
      simp only [LE] at h
      have hb := hl b (by simp)
      have hc := hm c (by simp)
      have e : ∀ (x k : Nat), x < 256 → (x ^^^ k * 256) = k * 256 + x := by
        intro x k hx
        have h1 := low_high (k * 256 + x) 8
        rw [show (2 : Nat) ^ 8 = 256 by decide, show (k * 256 + x) / 256 * 256 = k * 256 by omega, show (k * 256 + x) % 256 = x by omega] at h1
        rw [Nat.xor_comm]; exact h1
      rw [e b _ hb, e c _ hc] at h
      have h1 : b = c := by omega
      have h2 : LE l = LE m := by omega
      simp only [List.length_cons] at hn
      rw [h1, ih (fun x hx => hl x (by simp [hx])) (fun x hx => hm x (by simp [hx])) (by omega) h2]

theorem LE_append (l m : List Nat) : LE (l ++ m) = LE l ^^^ LE m * 2 ^ (8 * l.length) := by
  induction l with
  | nil => simp [LE]
  | cons b l ih =>
    simp only [List.cons_append, LE, List.length_cons]
    rw [ih, xor_mul256, ← Nat.xor_assoc, Nat.mul_add, Nat.mul_one, Nat.pow_add, Nat.mul_assoc]

/-- the numbers of steps that turned bits still go -/
theorem steps_shift (n k d : Nat) (h : k ≤ n) : steps n (d * 2 ^ k) = steps (n - k) d := by
  have : n = (n - k) + k := by omega
  conv => lhs; rw [this]
  rw [steps_add, steps_mul]

/-- what turned bits do to a sum -/
theorem more_turned (s : Nat) (l m : List Nat) (d k : Nat) (hn : m.length = l.length) (hk : k ≤ 8 * l.length) (h : LE m = LE l ^^^ d * 2 ^ k) :
    more s m = more s l ^^^ steps (8 * l.length - k) d := by
  unfold more
  rw [run_eq, run_eq, hn, h, ← Nat.xor_assoc, steps_xor, steps_shift _ _ _ hk, xor_swap]

theorem steps_inj (k : Nat) {a b : Nat} (ha : a < 4294967296) (hb : b < 4294967296) (h : steps k a = steps k b) : a = b := by
  rw [← unsteps_steps k ha, h, unsteps_steps k hb]

theorem steps_ne (k : Nat) {a : Nat} (ha : a < 4294967296) (h : a ≠ 0) : steps k a ≠ 0 := by
  intro e
  exact h (steps_inj k ha (by decide) (by rw [e, steps_zero]))

/-- P3.4: rows that are unlike within 32 bits in order have unlike sums -/
theorem more_tells (s : Nat) (l m : List Nat) (d k : Nat) (hn : m.length = l.length) (hk : k ≤ 8 * l.length) (h : LE m = LE l ^^^ d * 2 ^ k) (hd : d < 4294967296) (h0 : d ≠ 0) :
    more s l ≠ more s m := by
  rw [more_turned s l m d k hn hk h]
  intro e
  have : more s l ^^^ more s l = more s l ^^^ (more s l ^^^ steps (8 * l.length - k) d) := by rw [← e]
  rw [Nat.xor_self, xor_cancel'] at this
  exact steps_ne _ hd h0 this.symm

/-- what Patch turns -/
def turnOf (l : List Nat) (at' want : Nat) : Nat := unsteps (8 * (l.length - at')) (more 0 l ^^^ want)

theorem turnOf_lt {l : List Nat} {at' want : Nat} (hl : ∀ x ∈ l, x < 256) (hw : want < 4294967296) : turnOf l at' want < 4294967296 :=
  unsteps_lt _ (xor_lt32 (more_lt l (by decide) hl) hw)

theorem more_mended (l m : List Nat) (at' want : Nat) (hl : ∀ x ∈ l, x < 256) (hw : want < 4294967296) (hn : m.length = l.length) (hk : at' ≤ l.length)
    (h : LE m = LE l ^^^ turnOf l at' want * 2 ^ (8 * at')) : more 0 m = want := by
  rw [more_turned 0 l m _ _ hn (by omega) h, turnOf, ← Nat.mul_sub, steps_unsteps _ (xor_lt32 (more_lt l (by decide) hl) hw), xor_cancel']

theorem turnOf_back (l m : List Nat) (at' want : Nat) (hn : m.length = l.length) (hm : more 0 m = want) : turnOf m at' (more 0 l) = turnOf l at' want := by
  unfold turnOf; rw [hn, hm, Nat.xor_comm]

/-- P3.4: one row behind the other -/
theorem more_along (l m : List Nat) : more (more 0 l) m = more 0 (l ++ m) := by
  unfold more
  rw [run_append, Nat.xor_comm 4294967295 (_ ^^^ _), xor_cancel]

theorem run_affine (r d : Nat) (l : List Nat) : run (r ^^^ d) l = run r l ^^^ steps (8 * l.length) d := by
  rw [run_eq, run_eq, xor_swap, steps_xor]

theorem join_along (l m : List Nat) : steps (8 * m.length) (more 0 l) ^^^ more 0 m = more 0 (l ++ m) := by
  have h : run (4294967295 ^^^ 0) (l ++ m) = run (4294967295 ^^^ 0) m ^^^ steps (8 * m.length) (more 0 l) := by
    rw [run_append, ← run_affine]; congr 1
    unfold more
    rw [Nat.xor_zero, Nat.xor_comm (run _ _), xor_cancel']
  show steps (8 * m.length) (more 0 l) ^^^ (run (4294967295 ^^^ 0) m ^^^ 4294967295) = run (4294967295 ^^^ 0) (l ++ m) ^^^ 4294967295
  rw [h, Nat.xor_comm (steps _ _), xor_swap]

/-- rows turned into one another, byte by byte -/
def xors (l m : List Nat) : List Nat := List.zipWith (· ^^^ ·) l m

theorem LE_xors (l m : List Nat) (h : l.length = m.length) : LE (xors l m) = LE l ^^^ LE m := by
  unfold xors
  induction l generalizing m with
  | nil => cases m with
    | nil => rfl
    | cons _ _ => simp at h
  | cons b l ih => cases m with
    | nil => simp at h
    | cons c m =>
      simp only [List.length_cons] at h
      simp only [List.zipWith_cons_cons, LE]
      rw [ih m (by omega), xor_mul256, Nat.xor_assoc, Nat.xor_assoc]; congr 1
      rw [← Nat.xor_assoc, ← Nat.xor_assoc, Nat.xor_comm c]

theorem xors_length (l m : List Nat) (h : l.length = m.length) : (xors l m).length = l.length := by
  simp [xors, h]

/-- P3.4: three rows turned into one -/
theorem more_linear (s : Nat) (l m k : List Nat) (h1 : l.length = m.length) (h2 : l.length = k.length) : more s (xors (xors l m) k) = more s l ^^^ more s m ^^^ more s k := by
  have e1 : (xors l m).length = l.length := xors_length l m h1
  have e2 : (xors (xors l m) k).length = l.length := by rw [xors_length _ _ (by omega), e1]
  unfold more
  rw [run_eq, run_eq, run_eq, run_eq, e2, ← h1, ← h2, LE_xors _ _ (by omega), LE_xors _ _ h1]
  generalize 4294967295 ^^^ s = r
  generalize LE l = x; generalize LE m = y; generalize LE k = z; generalize 8 * l.length = n
  have : r ^^^ (x ^^^ y ^^^ z) = (r ^^^ x) ^^^ (r ^^^ y) ^^^ (r ^^^ z) := by
    have : (r ^^^ x) ^^^ (r ^^^ y) = x ^^^ y := by rw [← Nat.xor_assoc, xor_swap r x r, Nat.xor_self, Nat.zero_xor]
    rw [this, ← Nat.xor_assoc (x ^^^ y), Nat.xor_comm (x ^^^ y) r, Nat.xor_assoc r]
  rw [this, steps_xor, steps_xor]
  generalize steps n (r ^^^ x) = a; generalize steps n (r ^^^ y) = b; generalize steps n (r ^^^ z) = c; generalize 4294967295 = f
  have h3 : a ^^^ f ^^^ (b ^^^ f) = a ^^^ b := by rw [← Nat.xor_assoc, xor_swap a f b, xor_cancel]
  rw [h3, Nat.xor_assoc]

/-- the bits of a number, the lowest ones first, one by one -/
theorem mod_succ (x i : Nat) : x % 2 ^ (i + 1) = x % 2 ^ i ^^^ (if x / 2 ^ i % 2 = 1 then 2 ^ i else 0) := by
  apply Nat.eq_of_testBit_eq; intro j
  rw [Nat.testBit_xor, Nat.testBit_mod_two_pow, Nat.testBit_mod_two_pow]
  have hb : x.testBit i = decide (x / 2 ^ i % 2 = 1) := Nat.testBit_eq_decide_div_mod_eq
  split
  · rename_i h
    rw [Nat.testBit_two_pow]
    rcases Nat.lt_trichotomy j i with hj | hj | hj
    · simp [hj, show j < i + 1 by omega, show i ≠ j by omega]
    · subst hj; simp [hb, h]
    · simp [show ¬ j < i by omega, show ¬ j < i + 1 by omega, show i ≠ j by omega]
  · rename_i h
    rw [Nat.zero_testBit, Bool.xor_false]
    rcases Nat.lt_trichotomy j i with hj | hj | hj
    · simp [hj, show j < i + 1 by omega]
    · subst hj; simp [hb, h]
    · simp [show ¬ j < i by omega, show ¬ j < i + 1 by omega]

/-- the bytes of a number, the lowest ones first, one by one -/
theorem mod_byte (x i : Nat) : x % 2 ^ (8 * (i + 1)) = x % 2 ^ (8 * i) ^^^ (x / 2 ^ (8 * i) % 256) * 2 ^ (8 * i) := by
  have h := low_high (x % 2 ^ (8 * (i + 1))) (8 * i)
  rw [← h, Nat.xor_comm]
  have e : (2 : Nat) ^ (8 * (i + 1)) = 2 ^ (8 * i) * 256 := by rw [Nat.mul_add, Nat.pow_add]
  congr 1
  · exact Nat.mod_mod_of_dvd _ ⟨256, e⟩
  · rw [e, Nat.mod_mul_right_div_self]

end Go.Proofs.YtonokaelbpfjnabGreatDoor.Fm.Cr.Poly
/- Worlds, rows and bits: plain lemmas, without the program. -/
namespace Go.Proofs.YtonokaelbpfjnabGreatDoor.Fm.Cr
open Go.RowKit

theorem hide {p : Prop} (h : p) : Hid p := h

theorem grown_then {a b c : World} {row row' : Option Nat} (h : a.grownBy b row) (k : b.grownBy c row') (hr : ∀ j, row' = some j → a.heap.size ≤ j ∨ row = some j) : a.grownBy c row :=
  ⟨k.os.trans h.os, k.tape.trans h.tape, k.output.trans h.output, Nat.le_trans h.size k.size, fun i hi hne =>
    (k.block i (Nat.lt_of_lt_of_le hi h.size) (fun e => by
      rcases hr i e.symm with h1 | h1
      · omega
      · exact hne h1.symm)).trans (h.block i hi hne)⟩
theorem grown_trans {a b c : World} {row : Option Nat} (h : a.grownBy b row) (k : b.grownBy c row) : a.grownBy c row := grown_then h k (fun _ e => Or.inr e)
theorem grown_refl (w : World) (row : Option Nat) : w.grownBy w row := ⟨rfl, rfl, rfl, Nat.le_refl _, fun _ _ _ => rfl⟩
theorem grown_drew (w : World) (row : Option Nat) : w.grownBy w.drew row := ⟨rfl, rfl, rfl, Nat.le_refl _, fun _ _ _ => rfl⟩
theorem grown_none {a b : World} (h : a.grownBy b none) (row : Option Nat) : a.grownBy b row := grown_then (grown_refl a row) h (fun _ e => by cases e)
theorem grown_setCell (w : World) (g j : Nat) (u : Value) : w.grownBy (w.setCell ⟨g, j, none⟩ u) (some g) :=
  ⟨rfl, rfl, rfl, by simp [World.setCell], fun k _ hne => Below.heap_setCell _ _ _ _ (by intro e; exact hne (by simp [e]))⟩
theorem grown_below {a b : World} (h : a.grownBy b none) : Below a.heap.size a b := ⟨h.os, h.tape, h.output, h.size, fun k hk => h.block k hk (fun e => by cases e)⟩
theorem below_grown {a b : World} (h : Below a.heap.size a b) : a.grownBy b none := ⟨h.os, h.tape, h.output, h.size, fun k hk _ => h.block k hk⟩

theorem cell_row {w : World} {g : Nat} {l : List Value} {t : TypeId} {fr : Nat × Nat} (h : w.heap[g]? = some (.cells l.toArray t fr)) (j : Nat) : w.cell? ⟨g, j, none⟩ = l[j]? := by
  rw [cell_of_row w g j l.toArray t fr h]; simp
theorem free_row {w : World} {g : Nat} {c : Array Value} {t : TypeId} (h : w.heap[g]? = some (.cells c t (0, 0))) (j : Nat) : w.frozen? ⟨g, j, none⟩ = false := by
  simp [World.frozen?, h]
theorem row_setCell {w : World} {g : Nat} {l : List Value} {t : TypeId} {fr : Nat × Nat} (h : w.heap[g]? = some (.cells l.toArray t fr)) (j : Nat) (u : Value) : (w.setCell ⟨g, j, none⟩ u).heap[g]? = some (.cells (l.set j u).toArray t fr) := by
  simp [World.setCell, Array.getElem?_modify, h]
theorem row_lt {w : World} {g : Nat} {o : Obj} (h : w.heap[g]? = some o) : g < w.heap.size := (Array.getElem?_eq_some_iff.1 h).1


theorem wrap_u32 (n : Int) : IntKind.u32.wrap n = n % 4294967296 := by simp [IntKind.wrap, IntKind.bits, IntKind.signed]
theorem wrap_u8 (n : Int) : IntKind.u8.wrap n = n % 256 := by simp [IntKind.wrap, IntKind.bits, IntKind.signed]
theorem bits_xor_u32 (a b : Nat) (ha : a < 4294967296) (hb : b < 4294967296) : bits .xor .u32 (a : Int) (b : Int) = ((a ^^^ b : Nat) : Int) := by
  have hx : a ^^^ b < 2 ^ 32 := Nat.xor_lt_two_pow (by omega) (by omega)
  have h1 : (BitVec.ofInt 32 (a : Int)).toNat = a := by
    rw [BitVec.ofInt_natCast, BitVec.toNat_ofNat]; exact Nat.mod_eq_of_lt (by omega)
  have h2 : (BitVec.ofInt 32 (b : Int)).toNat = b := by
    rw [BitVec.ofInt_natCast, BitVec.toNat_ofNat]; exact Nat.mod_eq_of_lt (by omega)
  show IntKind.u32.wrap ((BitVec.ofInt 32 (a : Int) ^^^ BitVec.ofInt 32 (b : Int)).toNat : Int) = _
  rw [BitVec.toNat_xor, h1, h2, wrap_u32]
  omega
theorem bits_and_u32 (a b : Nat) (ha : a < 4294967296) (hb : b < 4294967296) : bits .and .u32 (a : Int) (b : Int) = ((a &&& b : Nat) : Int) := by
  have hx : a &&& b < 2 ^ 32 := Nat.and_lt_two_pow _ (by omega)
  have h1 : (BitVec.ofInt 32 (a : Int)).toNat = a := by
    rw [BitVec.ofInt_natCast, BitVec.toNat_ofNat]; exact Nat.mod_eq_of_lt (by omega)
  have h2 : (BitVec.ofInt 32 (b : Int)).toNat = b := by
    rw [BitVec.ofInt_natCast, BitVec.toNat_ofNat]; exact Nat.mod_eq_of_lt (by omega)
  show IntKind.u32.wrap ((BitVec.ofInt 32 (a : Int) &&& BitVec.ofInt 32 (b : Int)).toNat : Int) = _
  rw [BitVec.toNat_and, h1, h2, wrap_u32]
  omega
theorem bits_xor_u8 (a b : Nat) (ha : a < 256) (hb : b < 256) : bits .xor .u8 (a : Int) (b : Int) = ((a ^^^ b : Nat) : Int) := by
  have hx : a ^^^ b < 2 ^ 8 := Nat.xor_lt_two_pow (by omega) (by omega)
  have h1 : (BitVec.ofInt 8 (a : Int)).toNat = a := by
    rw [BitVec.ofInt_natCast, BitVec.toNat_ofNat]; exact Nat.mod_eq_of_lt (by omega)
  have h2 : (BitVec.ofInt 8 (b : Int)).toNat = b := by
    rw [BitVec.ofInt_natCast, BitVec.toNat_ofNat]; exact Nat.mod_eq_of_lt (by omega)
  show IntKind.u8.wrap ((BitVec.ofInt 8 (a : Int) ^^^ BitVec.ofInt 8 (b : Int)).toNat : Int) = _
  rw [BitVec.toNat_xor, h1, h2, wrap_u8]
  omega
theorem and_one (r : Nat) : r &&& 1 = r % 2 := Nat.and_one_is_mod r
theorem and_15 (r : Nat) : r &&& 15 = r % 16 := Nat.and_two_pow_sub_one_eq_mod r 4
theorem and_top (r : Nat) (h : r < 4294967296) : (r &&& 2147483648 = 0) ↔ r < 2147483648 := by
  have h31 : (2147483648 : Nat) = 2 ^ 31 := by decide
  rw [Poly.lt31 h]
  constructor
  · intro e
    have : (r &&& 2 ^ 31).testBit 31 = false := by rw [← h31, e]; rfl
    rw [Nat.testBit_and, Nat.testBit_two_pow_self, Bool.and_true] at this
    exact this
  · intro e
    apply Nat.eq_of_testBit_eq; intro i
    rw [h31, Nat.testBit_and, Nat.testBit_two_pow, Nat.zero_testBit]
    by_cases hi : 31 = i
    · subst hi; simp [e]
    · simp [hi]

/-- What becomes of four bits in four steps: the package's table lies at the first place of memory. -/
def Tab (w : World) : Prop := ∀ j, j < 16 → w.cell? ⟨0, j, none⟩ = some (.int .u32 ((Poly.steps 4 j : Nat) : Int))
theorem Tab.kept {w w' : World} {row : Option Nat} (h : Tab w) (hg : w.grownBy w' row) (hr : row ≠ some 0) : Tab w' := fun j hj => hg.cell (h j hj) (fun e => hr e.symm)
theorem Tab.grown {w w' : World} (h : Tab w) (hg : w.grownBy w' none) : Tab w' := h.kept hg (by simp)

end Go.Proofs.YtonokaelbpfjnabGreatDoor.Fm.Cr
/- The contracts of crc's step, times, moved, Join. -/
namespace Go.Proofs.YtonokaelbpfjnabGreatDoor.Fm.Cr
open Go.RowKit
attribute [local go_sem ↓] Go.wp_at_zero Go.wp_at_succ

/-- Twice a number of 32 bits, its highest bit lost. -/
theorem shl_u32 (a : Nat) : IntKind.u32.wrap ((a : Int) * 2) = ((a * 2 % 4294967296 : Nat) : Int) := by rw [wrap_u32]; omega

set_option maxHeartbeats 400000 in
theorem step_any (r : Nat) (hr : r < 4294967296) (w : World) : Calls Tryz.prog 168 #[.int .u32 (r : Int)] w fun e w' => e = .returned (.int .u32 ((Poly.step r : Nat) : Int)) ∧ w' = w := by
  have hand := bits_and_u32 r 1 hr (by decide)
  rw [and_one] at hand
  have hxor : bits .xor .u32 ((r : Int) / 2) 3988292384 = ((r / 2 ^^^ 3988292384 : Nat) : Int) := bits_xor_u32 (r / 2) 3988292384 (by omega) (by decide)
  by_cases h : r % 2 = 1
  · rw [show Poly.step r = r / 2 ^^^ 3988292384 by simp [Poly.step, h]]
    generalize r / 2 ^^^ 3988292384 = y at *
    have hand : bits .and .u32 (r : Int) 1 = 1 := by rw [h] at hand; exact hand
    clear h
    go_enter Tryz.func168, Tryz.ntmps168
    go_wp2
    go_ret
    exact ⟨rfl, rfl⟩
  · rw [show Poly.step r = r / 2 by simp [Poly.step, h]]
    have hand : bits .and .u32 (r : Int) 1 = 0 := by rw [show r % 2 = 0 by omega] at hand; exact hand
    clear h hxor
    go_enter Tryz.func168, Tryz.ntmps168
    go_wp2
    go_ret
    exact ⟨rfl, rfl⟩

theorem bits_and_i64 (a b : Nat) (ha : a < 9223372036854775808) (hb : b < 9223372036854775808) : bits .and .i64 (a : Int) (b : Int) = ((a &&& b : Nat) : Int) := by
  have hx : a &&& b < 2 ^ 63 := Nat.and_lt_two_pow _ (by omega)
  have h1 : (BitVec.ofInt 64 (a : Int)).toNat = a := by
    rw [BitVec.ofInt_natCast, BitVec.toNat_ofNat]; exact Nat.mod_eq_of_lt (by omega)
  have h2 : (BitVec.ofInt 64 (b : Int)).toNat = b := by
    rw [BitVec.ofInt_natCast, BitVec.toNat_ofNat]; exact Nat.mod_eq_of_lt (by omega)
  show IntKind.i64.wrap ((BitVec.ofInt 64 (a : Int) &&& BitVec.ofInt 64 (b : Int)).toNat : Int) = _
  rw [BitVec.toNat_and, h1, h2, IntKind.wrap_i64]
  omega

/-- Many steps at once, ahead or back: what a product with a number does. -/
structure Goes (F : Nat → Nat → Nat) : Prop where
  zero : ∀ r, F 0 r = r
  add : ∀ j k r, F (j + k) r = F j (F k r)
  lt : ∀ k r, r < 4294967296 → F k r < 4294967296
  mul : ∀ k r, r < 4294967296 → Poly.mul r (F k 2147483648) = F k r
theorem goes_ahead : Goes Poly.steps := ⟨fun _ => rfl, Poly.steps_add, fun k _ h => Poly.steps_lt k h, Poly.mul_steps⟩
theorem goes_back : Goes Poly.unsteps := ⟨fun _ => rfl, Poly.unsteps_add, fun k _ h => Poly.unsteps_lt k h, Poly.mul_unsteps⟩

/-- What Join answers. -/
def joinN (a b : Nat) (n : Int) : Nat := Poly.steps (8 * n.toNat) a ^^^ b
theorem joinN_lt {a b : Nat} (n : Int) (ha : a < 4294967296) (hb : b < 4294967296) : joinN a b n < 4294967296 := Poly.xor_lt32 (Poly.steps_lt _ ha) hb
end Go.Proofs.YtonokaelbpfjnabGreatDoor.Fm.Cr
/- The contracts of crc's More and Sum. -/
namespace Go.Proofs.YtonokaelbpfjnabGreatDoor.Fm.Cr
open Go.RowKit
attribute [local go_sem ↓] Go.wp_at_zero Go.wp_at_succ

/-- The bytes xs lie where ao leads. -/
def At (w : World) (ao : Option Addr) (xs : List Nat) : Prop := ∀ j u, xs[j]? = some u → ∃ a, ao = some a ∧ w.cell? (a.add j) = some (.int .u8 ((u : Nat) : Int))
theorem addr_add_block (a : Addr) (j : Nat) : (a.add j).block = a.block := by unfold Addr.add; split <;> rfl
theorem At.nil (w : World) (ao : Option Addr) : At w ao [] := fun j u h => by simp at h
theorem At.kept {w w' : World} {ao : Option Addr} {xs : List Nat} {row : Option Nat} (h : At w ao xs) (hg : w.grownBy w' row) (hr : ∀ a, ao = some a → some a.block ≠ row) : At w' ao xs := by
  intro j u hu
  obtain ⟨a, ha, hcell⟩ := h j u hu
  exact ⟨a, ha, hg.cell hcell (by rw [addr_add_block]; exact hr a ha)⟩
theorem At.grown {w w' : World} {ao : Option Addr} {xs : List Nat} (h : At w ao xs) (hg : w.grownBy w' none) : At w' ao xs := h.kept hg (by simp)
/-- They are bytes. -/
def Bytes (xs : List Nat) : Prop := ∀ x ∈ xs, x < 256

theorem run_take {xs : List Nat} {j : Nat} (hj : j < xs.length) (r : Nat) : Poly.run r (xs.take (j + 1)) = Poly.byteStep (Poly.run r (xs.take j)) xs[j] := by
  rw [List.take_succ_eq_append_getElem hj, Poly.run_append]; rfl
theorem Bytes.take {xs : List Nat} (h : Bytes xs) (j : Nat) : Bytes (xs.take j) := fun x hx => h x (List.mem_of_mem_take hx)
theorem byteStep_nib (r x : Nat) : Poly.byteStep r x = Poly.steps 4 (Poly.steps 4 (r ^^^ x)) := Poly.steps_add 4 4 _

set_option maxHeartbeats 1000000 in
theorem more_any (s : Nat) (ao : Option Addr) (n c : Nat) (xs : List Nat) (w : World) (hs : s < 4294967296) (hn : xs.length = n) (hx : Bytes xs) (hat : At w ao xs) (hT : Tab w) (hm : n ≤ 4611686018427387904) :
    Calls Tryz.prog 48 #[.int .u32 (s : Int), .slice ao n c] w fun e w' => e = .returned (.int .u32 ((Poly.more s xs : Nat) : Int)) ∧ w' = w := by
  have hinv : bits .xor .u32 IntKind.u32.max (s : Int) = ((4294967295 ^^^ s : Nat) : Int) := bits_xor_u32 4294967295 s (by decide) hs
  have hrl : 4294967295 ^^^ s < 4294967296 := Poly.xor_lt32 (by decide) hs
  have hM : Poly.more s xs = 4294967295 ^^^ Poly.run (4294967295 ^^^ s) xs := by rw [Poly.more, Nat.xor_comm]
  obtain ⟨M, hM2⟩ : ∃ M, M = Poly.more s xs := ⟨_, rfl⟩
  rw [← hM2]
  rw [← hM2] at hM
  generalize 4294967295 ^^^ s = r0 at *
  have HM := hide hM
  clear hM hM2
  have HA := hide (And.intro hn (And.intro hx (And.intro hat hT)))
  clear hn hx hat hT
  go_enter Tryz.func48, Tryz.ntmps48
  go_wp2
  go_loopg [5, 7, 12] n (fun k r y i wr => ∃ j : Nat, k + j = n ∧ i = .int .i64 j ∧ r = .int .u32 ((Poly.run r0 (xs.take j) : Nat) : Int) ∧ wr = w)
  case atStart => exact ⟨0, by omega, rfl, rfl, rfl⟩
  case round =>
    obtain ⟨j, hkj, rfl, rfl, rfl⟩ := hrel
    obtain ⟨hn, hx, hat, hT⟩ := HA.out
    have hR := Poly.run_lt (xs.take j) hrl (hx.take j)
    by_cases hk : 0 < gk
    · have hj : j < xs.length := by omega
      obtain ⟨a, rfl, hca⟩ := hat j xs[j] (by simp [hj])
      have hb := hx xs[j] (List.getElem_mem hj)
      have HR := hide (run_take hj r0)
      rw [byteStep_nib] at HR
      generalize xs[j] = x at *
      generalize Poly.run r0 (xs.take j) = R at *
      have h1 := bits_xor_u32 R x hR (by omega)
      have hl1 := Poly.xor_lt32 hR (show x < 4294967296 by omega)
      generalize R ^^^ x = R1 at *
      have h2 : bits .and .u32 (R1 : Int) 15 = ((R1 % 16 : Nat) : Int) := by have := bits_and_u32 R1 15 hl1 (by decide); rw [and_15] at this; exact this
      have hc1 := hT (R1 % 16) (by omega)
      have h3 : bits .xor .u32 ((R1 : Int) / 16) ((Poly.steps 4 (R1 % 16) : Nat) : Int) = ((Poly.steps 4 R1 : Nat) : Int) := by
        rw [← Poly.nib R1]; exact bits_xor_u32 (R1 / 16) _ (by omega) (Poly.steps_lt 4 (by omega))
      have hl2 := Poly.steps_lt 4 hl1
      have hi1 : ((R1 % 16 : Nat) : Int) < 16 := by omega
      generalize Poly.steps 4 (R1 % 16) = t1 at *
      generalize R1 % 16 = i1 at *
      generalize Poly.steps 4 R1 = R2 at *
      have h4 : bits .and .u32 (R2 : Int) 15 = ((R2 % 16 : Nat) : Int) := by have := bits_and_u32 R2 15 hl2 (by decide); rw [and_15] at this; exact this
      have hc2 := hT (R2 % 16) (by omega)
      have h5 : bits .xor .u32 ((R2 : Int) / 16) ((Poly.steps 4 (R2 % 16) : Nat) : Int) = ((Poly.steps 4 R2 : Nat) : Int) := by
        rw [← Poly.nib R2]; exact bits_xor_u32 (R2 / 16) _ (by omega) (Poly.steps_lt 4 (by omega))
      have hi2 : ((R2 % 16 : Nat) : Int) < 16 := by omega
      generalize Poly.steps 4 (R2 % 16) = t2 at *
      generalize R2 % 16 = i2 at *
      generalize Poly.steps 4 R2 = R3 at *
      have hj1 : (j : Int) < (n : Int) := by omega
      clear hn hx hat hT HA hj
      go_wp2
      go_roundg (gk - 1)
      case measure => omega
      case rel => exact ⟨j + 1, by omega, by go_num, by rw [HR.out], rfl⟩
    · have hj : j = n := by omega
      subst hj
      rw [List.take_of_length_le (by omega)] at hR ⊢
      have h1 : bits .xor .u32 IntKind.u32.max ((Poly.run r0 xs : Nat) : Int) = (M : Int) := by rw [HM.out]; exact bits_xor_u32 4294967295 _ (by decide) hR
      clear HM
      generalize Poly.run r0 xs = z at *
      clear hn hx hat hT HA
      go_wp2
      go_ret
      exact ⟨rfl, rfl⟩

set_option maxHeartbeats 400000 in
theorem sum_any (ao : Option Addr) (n c : Nat) (xs : List Nat) (w : World) (hn : xs.length = n) (hx : Bytes xs) (hat : At w ao xs) (hT : Tab w) (hm : n ≤ 4611686018427387904) :
    Calls Tryz.prog 26 #[.slice ao n c] w fun e w' => e = .returned (.int .u32 ((Poly.more 0 xs : Nat) : Int)) ∧ w' = w := by
  have HM := hide (more_any 0 ao n c xs w (by decide) hn hx hat hT hm)
  generalize Poly.more 0 xs = M at *
  clear hn hx hat hT hm
  go_enter Tryz.func26, Tryz.ntmps26
  go_wp2_with fail
  refine HM.out.mono ?_
  rintro e w' ⟨rfl, rfl⟩
  go_wp2
  go_ret
  exact ⟨rfl, rfl⟩
end Go.Proofs.YtonokaelbpfjnabGreatDoor.Fm.Cr
/- Headers as bytes; mayBe. -/
namespace Go.Proofs.YtonokaelbpfjnabGreatDoor.Fm
open Go.RowKit
attribute [local go_sem ↓] Go.wp_at_zero Go.wp_at_succ
/-- Bytes as natural numbers. -/
def nats (xs : List Int) : List Nat := xs.map Int.toNat
/-- The sum of bytes. -/
def sumI (xs : List Int) : Int := ((Cr.Poly.more 0 (nats xs) : Nat) : Int)
theorem nats_length (xs : List Int) : (nats xs).length = xs.length := by simp [nats]
theorem nats_lt {xs : List Int} (h : Byt xs) : ∀ x ∈ nats xs, x < 256 := by
  intro x hx
  simp only [nats, List.mem_map] at hx
  obtain ⟨y, hy, rfl⟩ := hx
  have := h y hy
  omega
theorem sumI_lt {xs : List Int} (h : Byt xs) : 0 ≤ sumI xs ∧ sumI xs < 4294967296 := by
  have := Cr.Poly.more_lt (s := 0) (nats xs) (by decide) (nats_lt h)
  unfold sumI
  omega

/-- The table of crc. -/
abbrev Tab (w : World) : Prop := Cr.Tab w

theorem At.nats {w : World} {ao : Option Addr} {xs : List Int} (h : At w ao xs) (hB : Byt xs) : Cr.At w ao (nats xs) := by
  intro j u hu
  simp only [Go.Proofs.YtonokaelbpfjnabGreatDoor.Fm.nats, List.getElem?_map] at hu
  cases hj : xs[j]? with
  | none => simp [hj] at hu
  | some x =>
    simp [hj] at hu
    obtain ⟨a, ha, hc⟩ := h j x hj
    refine ⟨a, ha, ?_⟩
    have hx := hB x (List.mem_of_getElem? hj)
    rw [hc, ← hu]
    have : ((x.toNat : Nat) : Int) = x := by omega
    rw [this]

theorem sum_any (ao : Option Addr) (n c : Nat) (xs : List Int) (w : World) (hn : xs.length = n) (hx : Byt xs) (hat : At w ao xs) (hT : Tab w) (hm : n ≤ 4611686018427387904) :
    Calls Tryz.prog 26 #[.slice ao n c] w fun e w' => e = .returned (.int .u32 (sumI xs)) ∧ w' = w :=
  Cr.sum_any ao n c (nats xs) w (by rw [nats_length, hn]) (nats_lt hx) (hat.nats hx) hT hm


/-- A header: generation, covered, length, sum. -/
structure Hd where
  g : Int
  c : Int
  n : Int
  s : Int
/-- Its numbers are such. -/
structure Hd.Ok (h : Hd) : Prop where
  g0 : 0 ≤ h.g
  g1 : h.g < 18446744073709551616
  c0 : 0 ≤ h.c
  c1 : h.c < 18446744073709551616
  n0 : -9223372036854775808 ≤ h.n
  n1 : h.n ≤ 9223372036854775807
  s0 : 0 ≤ h.s
  s1 : h.s < 4294967296
/-- It may be. -/
def Hd.May (h : Hd) : Prop := 1 ≤ h.g ∧ 0 ≤ h.n ∧ h.n ≤ 67108864
instance (h : Hd) : Decidable h.May := by unfold Hd.May; exact inferInstance
def Hd.head (h : Hd) : List Int := [71, 65, 78, 71] ++ leB h.g 8 ++ leB h.c 8 ++ leB h.n 4 ++ leB h.s 4
def Hd.out (h : Hd) : List Int := h.head ++ leB (sumI h.head) 4
theorem Hd.head_length (h : Hd) : h.head.length = 28 := by simp [Hd.head, leB_length]
theorem Hd.out_length (h : Hd) : h.out.length = 32 := by simp [Hd.out, leB_length, h.head_length]
theorem leB_byt (N : Int) (k : Nat) : Byt (leB N k) := by
  intro x hx
  unfold leB at hx
  obtain ⟨j, _, rfl⟩ := List.mem_map.1 hx
  exact ⟨Int.emod_nonneg _ (by decide), Int.emod_lt_of_pos _ (by decide)⟩
theorem byt_append {xs ys : List Int} (h : Byt xs) (g : Byt ys) : Byt (xs ++ ys) := fun x hx => (List.mem_append.1 hx).elim (h x) (g x)
theorem magic_byt : Byt [71, 65, 78, 71] := by intro x hx; simp at hx; omega
theorem Hd.head_byt (h : Hd) : Byt h.head := byt_append (byt_append (byt_append (byt_append magic_byt (leB_byt _ _)) (leB_byt _ _)) (leB_byt _ _)) (leB_byt _ _)
theorem Hd.out_byt (h : Hd) : Byt h.out := byt_append h.head_byt (leB_byt _ _)
def hdV (h : Hd) : Value := .agg #[.int .u64 h.g, .int .u64 h.c, .int .i64 h.n, .int .u32 h.s]
def hdC (h : Hd) : List Value := [.int .u64 h.g, .int .u64 h.c, .int .i64 h.n, .int .u32 h.s]
set_option maxHeartbeats 1000000 in
theorem mayBe_any (h : Hd) (w : World) : Calls Tryz.prog 32 #[hdV h] w fun e w' => e = .returned (.bool (decide h.May)) ∧ w.grownBy w' none := by
  unfold hdV
  have hb : (w.alloc (.cells #[.int .u64 h.g, .int .u64 h.c, .int .i64 h.n, .int .u32 h.s] 25)).heap[w.heap.size]? = some (.cells [Value.int .u64 h.g, .int .u64 h.c, .int .i64 h.n, .int .u32 h.s].toArray 25 (0, 0)) := heap_alloc_new w _
  have c0 := cell_row hb 0
  have c2 := cell_row hb 2
  simp only [List.getElem?_cons_zero, List.getElem?_cons_succ] at c0 c2
  have HG := hide (World.grownBy_alloc w (.cells #[.int .u64 h.g, .int .u64 h.c, .int .i64 h.n, .int .u32 h.s] 25) none)
  clear hb
  go_enter Tryz.func32, Tryz.ntmps32
  go_wp2
  all_goals
    go_ret
    refine ⟨?_, HG.out⟩
    first
      | (show Ending.returned (Value.bool (decide (h.n ≤ 67108864))) = Ending.returned (Value.bool (decide h.May))
         rw [decide_eq_decide.2 (show h.n ≤ 67108864 ↔ h.May by unfold Hd.May; omega)])
      | (show Ending.returned (Value.bool false) = Ending.returned (Value.bool (decide h.May))
         rw [decide_eq_false (show ¬ h.May by unfold Hd.May; omega)])
end Go.Proofs.YtonokaelbpfjnabGreatDoor.Fm
