/- Replies as bytes: numbers alone, without the program. -/
import Derived.Test.YtoflohjlmagjpaaDoorNum
namespace Go.Proofs.YtoflohjlmagjpaaDoor
/-- Bytes are those of the number that they say. -/
theorem leB_leV : ∀ (xs : List Int), Byt xs → leB (leV xs) xs.length = xs
  | [], _ => rfl
  | x :: r, h => by
    have ih := leB_leV r h.tail
    have hx := h x (List.mem_cons_self ..)
    have h0 := (leV_bound r h.tail).1
    rw [List.length_cons]
    simp only [leB] at ih ⊢
    rw [List.range_succ_eq_map, List.map_cons, List.map_map]
    have e0 : leV (x :: r) / 2 ^ (8 * 0) % 256 = x := by simp [leV]; omega
    rw [e0]
    congr 1
    have hmap : (List.range r.length).map ((fun j => leV (x :: r) / 2 ^ (8 * j) % 256) ∘ Nat.succ) = (List.range r.length).map (fun j => leV r / 2 ^ (8 * j) % 256) := by
      apply List.map_congr_left
      intro j _
      simp only [Function.comp, Nat.succ_eq_add_one]
      rw [pow_succ8]
      have e1 : leV (x :: r) / (256 * 2 ^ (8 * j)) = leV r / 2 ^ (8 * j) := by
        rw [← Int.ediv_ediv_of_nonneg (by decide : (0 : Int) ≤ 256)]
        congr 1
        simp only [leV]
        omega
      rw [e1]
    rw [hmap]
    exact ih
/-- A reply: tag, kind, error, id, seat, until, count. -/
structure Ry where
  t : Int
  k : Int
  e : Int
  i : Int
  s : Int
  u : Int
  c : Int
/-- Its numbers are such. -/
structure Ry.Ok (q : Ry) : Prop where
  t0 : 0 ≤ q.t
  t1 : q.t < 4294967296
  k0 : -9223372036854775808 ≤ q.k
  k1 : q.k ≤ 9223372036854775807
  e0 : -9223372036854775808 ≤ q.e
  e1 : q.e ≤ 9223372036854775807
  i0 : 0 ≤ q.i
  i1 : q.i < 4294967296
  s0 : -9223372036854775808 ≤ q.s
  s1 : q.s ≤ 9223372036854775807
  u0 : -9223372036854775808 ≤ q.u
  u1 : q.u ≤ 9223372036854775807
  c0 : -9223372036854775808 ≤ q.c
  c1 : q.c ≤ 9223372036854775807
/-- What a reply of a kind and an error has. -/
def hI (k e : Int) : Bool := decide (e = 0 ∧ (k = 1 ∨ k = 6))
def hS (k e : Int) : Bool := decide (e = 0 ∧ (k = 4 ∨ k = 5))
def hU (k e : Int) : Bool := decide (e = 0 ∧ (k = 1 ∨ k = 5 ∨ k = 6 ∨ k = 7))
def hC (k e : Int) : Bool := decide (e = 0 ∧ (k = 8 ∨ k = 9 ∨ k = 10))
/-- A number in its place. -/
def inP (b : Bool) (n m : Int) : Bool := if b then decide (0 ≤ n ∧ n ≤ m) else decide (n = 0)
/-- It may be as a reply of a kind. -/
def Ry.kindB (q : Ry) : Bool := decide (1 ≤ q.k ∧ q.k ≤ 10) && (decide (0 ≤ q.e ∧ q.e ≤ 65535) && (inP (hI q.k q.e) q.i 4294967295 && (inP (hS q.k q.e) q.s 65535 && (inP (hU q.k q.e) q.u 9223372036854775807 && inP (hC q.k q.e) q.c 65535))))
/-- It is what no request is answered with. -/
def Ry.noneB (q : Ry) : Bool := decide (q.t = 0 ∧ q.k = 0 ∧ q.e = 200 ∧ q.i = 0 ∧ q.s = 0 ∧ q.u = 0 ∧ q.c = 0)
def Ry.mayB (q : Ry) : Bool := q.kindB || q.noneB
def Ry.May (q : Ry) : Prop := q.mayB = true
instance (q : Ry) : Decidable q.May := by unfold Ry.May; exact inferInstance
/-- What Check answers. -/
def chk (q : Ry) : Int := if q.May then 0 else 210
def zRy : Ry := ⟨0, 0, 0, 0, 0, 0, 0⟩
def ifB (b : Bool) (xs : List Int) : List Int := if b then xs else []
def ifN (b : Bool) (n : Nat) : Nat := if b then n else 0
/-- Its bytes. -/
def Ry.out (q : Ry) : List Int := leB q.t 4 ++ (q.k :: (leB q.e 2 ++ (ifB (hI q.k q.e) (leB q.i 4) ++ (ifB (hS q.k q.e) (leB q.s 2) ++ (ifB (hU q.k q.e) (leB q.u 8) ++ ifB (hC q.k q.e) (leB q.c 2))))))
def sz (k e : Int) : Nat := 7 + (ifN (hI k e) 4 + (ifN (hS k e) 2 + (ifN (hU k e) 8 + ifN (hC k e) 2)))
/-- A number of eight bytes as an int64. -/
def i64of (n : Int) : Int := if n < 9223372036854775808 then n else n - 18446744073709551616
/-- The number of the n bytes at a place, if a kind has it. -/
def num (b : Bool) (xs : List Int) (a n : Nat) : Int := if b then leV ((xs.drop a).take n) else 0
def kO (xs : List Int) : Int := leV ((xs.drop 4).take 1)
def eO (xs : List Int) : Int := leV ((xs.drop 5).take 2)
def szO (xs : List Int) : Nat := sz (kO xs) (eO xs)
def aS (k e : Int) : Nat := 7 + ifN (hI k e) 4
def aU (k e : Int) : Nat := aS k e + ifN (hS k e) 2
def aC (k e : Int) : Nat := aU k e + ifN (hU k e) 8
theorem sz_aC (k e : Int) : sz k e = aC k e + ifN (hC k e) 2 := by unfold sz aC aU aS; omega
/-- The reply in bytes. -/
def ryOf (xs : List Int) : Ry := ⟨leV (xs.take 4), kO xs, eO xs, num (hI (kO xs) (eO xs)) xs 7 4, num (hS (kO xs) (eO xs)) xs (aS (kO xs) (eO xs)) 2, i64of (num (hU (kO xs) (eO xs)) xs (aU (kO xs) (eO xs)) 8), num (hC (kO xs) (eO xs)) xs (aC (kO xs) (eO xs)) 2⟩
/-- What Get answers. -/
def getY (xs : List Int) : Ry × Int := if xs.length = szO xs ∧ (ryOf xs).May then (ryOf xs, 0) else (zRy, 210)

theorem inP_true {b : Bool} {n m : Int} (hm : 0 ≤ m) (h : inP b n m = true) : 0 ≤ n ∧ n ≤ m ∧ (b = false → n = 0) := by
  unfold inP at h
  cases b with
  | false => rw [if_neg (by decide)] at h; have := of_decide_eq_true h; subst this; exact ⟨by omega, hm, fun _ => rfl⟩
  | true => rw [if_pos rfl] at h; have := of_decide_eq_true h; exact ⟨this.1, this.2, fun e => by cases e⟩
theorem has_e {k e : Int} (h : e ≠ 0) : hI k e = false ∧ hS k e = false ∧ hU k e = false ∧ hC k e = false := by
  refine ⟨decide_eq_false (fun x => h x.1), decide_eq_false (fun x => h x.1), decide_eq_false (fun x => h x.1), decide_eq_false (fun x => h x.1)⟩
/-- What may be, in words. -/
theorem may_iff {q : Ry} (ho : q.Ok) : q.May ↔ ((1 ≤ q.k ∧ q.k ≤ 10) ∨ (q.k = 0 ∧ q.t = 0 ∧ q.e = 200)) ∧ (0 ≤ q.e ∧ q.e ≤ 65535) ∧ (0 ≤ q.s ∧ q.s ≤ 65535) ∧ 0 ≤ q.u ∧ (0 ≤ q.c ∧ q.c ≤ 65535) ∧ (hI q.k q.e = false → q.i = 0) ∧ (hS q.k q.e = false → q.s = 0) ∧ (hU q.k q.e = false → q.u = 0) ∧ (hC q.k q.e = false → q.c = 0) := by
  constructor
  · intro h
    unfold Ry.May Ry.mayB at h
    rw [Bool.or_eq_true] at h
    rcases h with h | h
    · unfold Ry.kindB at h
      simp only [Bool.and_eq_true, decide_eq_true_eq] at h
      obtain ⟨a, b, hi, hs, hu, hc⟩ := h
      have hi := inP_true (by decide) hi
      have hs := inP_true (by decide) hs
      have hu := inP_true (by decide) hu
      have hc := inP_true (by decide) hc
      exact ⟨Or.inl a, b, ⟨hs.1, hs.2.1⟩, hu.1, ⟨hc.1, hc.2.1⟩, hi.2.2, hs.2.2, hu.2.2, hc.2.2⟩
    · obtain ⟨h1, h2, h3, h4, h5, h6, h7⟩ := of_decide_eq_true h
      exact ⟨Or.inr ⟨h2, h1, h3⟩, by omega, by omega, by omega, by omega, fun _ => h4, fun _ => h5, fun _ => h6, fun _ => h7⟩
  · rintro ⟨a, b, c, d, f, hi, hs, hu, hc⟩
    have i0 := ho.i0
    have i1 := ho.i1
    have u1 := ho.u1
    unfold Ry.May Ry.mayB
    rw [Bool.or_eq_true]
    rcases a with a | ⟨a1, a2, a3⟩
    · left
      unfold Ry.kindB
      simp only [Bool.and_eq_true, decide_eq_true_eq]
      refine ⟨a, b, ?_, ?_, ?_, ?_⟩
      · unfold inP
        cases hh : hI q.k q.e with
        | false => rw [if_neg (by decide)]; exact decide_eq_true (hi hh)
        | true => rw [if_pos rfl]; exact decide_eq_true ⟨i0, by omega⟩
      · unfold inP
        cases hh : hS q.k q.e with
        | false => rw [if_neg (by decide)]; exact decide_eq_true (hs hh)
        | true => rw [if_pos rfl]; exact decide_eq_true c
      · unfold inP
        cases hh : hU q.k q.e with
        | false => rw [if_neg (by decide)]; exact decide_eq_true (hu hh)
        | true => rw [if_pos rfl]; exact decide_eq_true ⟨d, u1⟩
      · unfold inP
        cases hh : hC q.k q.e with
        | false => rw [if_neg (by decide)]; exact decide_eq_true (hc hh)
        | true => rw [if_pos rfl]; exact decide_eq_true f
    · right
      have z := has_e (k := q.k) (e := q.e) (by omega)
      exact decide_eq_true ⟨a2, a1, a3, hi z.1, hs z.2.1, hu z.2.2.1, hc z.2.2.2⟩
/-- What may be has numbers that their bytes hold. -/
theorem may_nums {q : Ry} (ho : q.Ok) (h : q.May) : (0 ≤ q.k ∧ q.k ≤ 10) ∧ (0 ≤ q.e ∧ q.e ≤ 65535) ∧ (hI q.k q.e = false → q.i = 0) ∧ (0 ≤ q.s ∧ q.s ≤ 65535 ∧ (hS q.k q.e = false → q.s = 0)) ∧ (0 ≤ q.u ∧ q.u ≤ 9223372036854775807 ∧ (hU q.k q.e = false → q.u = 0)) ∧ (0 ≤ q.c ∧ q.c ≤ 65535 ∧ (hC q.k q.e = false → q.c = 0)) := by
  obtain ⟨a, b, c, d, f, hi, hs, hu, hc⟩ := (may_iff ho).1 h
  have u1 := ho.u1
  exact ⟨by omega, b, hi, ⟨c.1, c.2, hs⟩, ⟨d, u1, hu⟩, f.1, f.2, hc⟩
theorem ifB_length (b : Bool) (xs : List Int) : (ifB b xs).length = ifN b xs.length := by cases b <;> rfl
theorem out_length (q : Ry) : q.out.length = sz q.k q.e := by
  unfold Ry.out sz
  rw [List.length_append, List.length_cons, List.length_append, List.length_append, List.length_append, List.length_append, ifB_length, ifB_length, ifB_length, ifB_length, leB_length, leB_length, leB_length, leB_length, leB_length, leB_length]
  omega
theorem ifN_le (b : Bool) (n : Nat) : ifN b n ≤ n := by cases b <;> simp [ifN]
theorem ifN_false (n : Nat) : ifN false n = 0 := rfl
theorem sz_le (k e : Int) : 7 ≤ sz k e ∧ sz k e ≤ 19 := by
  unfold sz
  refine ⟨by omega, ?_⟩
  have h1 := ifN_le (hI k e) 4
  have h2 := ifN_le (hS k e) 2
  have h3 := ifN_le (hU k e) 8
  have h4 := ifN_le (hC k e) 2
  by_cases hh : hC k e = true
  · have := of_decide_eq_true hh
    have z1 : hI k e = false := decide_eq_false (by omega)
    have z2 : hS k e = false := decide_eq_false (by omega)
    have z3 : hU k e = false := decide_eq_false (by omega)
    rw [z1, z2, z3, ifN_false, ifN_false, ifN_false]
    omega
  · have z4 : hC k e = false := by simpa using hh
    rw [z4, ifN_false]
    by_cases hs : hS k e = true
    · have := of_decide_eq_true hs
      have z1 : hI k e = false := decide_eq_false (by omega)
      rw [z1, ifN_false]
      omega
    · have z2 : hS k e = false := by simpa using hs
      rw [z2, ifN_false]
      omega
theorem sz_err {k e : Int} (h : e ≠ 0) : sz k e = 7 := by
  obtain ⟨a, b, c, d⟩ := has_e (k := k) h
  unfold sz
  rw [a, b, c, d]
  rfl
theorem byt_cons {x : Int} {r : List Int} (h : 0 ≤ x ∧ x < 256) (g : Byt r) : Byt (x :: r) := fun y hy => (List.mem_cons.1 hy).elim (fun e => by rw [e]; exact h) (g y)
theorem byt_nil : Byt [] := fun _ h => by cases h
theorem byt_ifB {b : Bool} {xs : List Int} (h : Byt xs) : Byt (ifB b xs) := by cases b with | false => exact byt_nil | true => exact h
theorem out_byt {q : Ry} (ho : q.Ok) (h : q.May) : Byt q.out := by
  have hk := (may_nums ho h).1
  unfold Ry.out
  exact (byt_leB _ _).append (byt_cons (by omega) ((byt_leB _ _).append ((byt_ifB (byt_leB _ _)).append ((byt_ifB (byt_leB _ _)).append ((byt_ifB (byt_leB _ _)).append (byt_ifB (byt_leB _ _)))))))
theorem leV4 {n : Int} (h0 : 0 ≤ n) (h1 : n < 4294967296) : leV (leB n 4) = n := by rw [leV_leB n h0]; omega
theorem leV2 {n : Int} (h0 : 0 ≤ n) (h1 : n < 65536) : leV (leB n 2) = n := by rw [leV_leB n h0]; omega
theorem leV8 {n : Int} (h0 : 0 ≤ n) (h1 : n < 18446744073709551616) : leV (leB n 8) = n := by rw [leV_leB n h0]; omega
theorem leV1 (n : Int) : leV [n] = n := by simp [leV]
theorem i64of_small {n : Int} (h1 : n < 9223372036854775808) : i64of n = n := if_pos h1
theorem take_pre (xs ys : List Int) (n : Nat) (h : xs.length = n) : (xs ++ ys).take n = xs := by rw [← h, List.take_left]
theorem drop_pre (xs ys : List Int) (n : Nat) (h : xs.length = n) : (xs ++ ys).drop n = ys := by rw [← h, List.drop_left]
/-- A part is read where it was written. -/
theorem num_at (b : Bool) (p r : List Int) (a n m : Nat) (v : Int) (hp : p.length = a) (hn : n = m) (hv : leV (leB v m) = v) (h0 : b = false → v = 0) : num b (p ++ (ifB b (leB v m) ++ r)) a n = v := by
  subst hn
  unfold num
  cases b with
  | false => rw [if_neg (by decide), h0 rfl]
  | true => rw [if_pos rfl, drop_pre _ _ _ hp, show ifB true (leB v n) = leB v n from rfl, take_pre _ _ _ (leB_length _ _), hv]
/-- The kind and the error of a reply's bytes. -/
theorem out_ke {q : Ry} (ho : q.Ok) (h : q.May) (ys : List Int) : kO (q.out ++ ys) = q.k ∧ eO (q.out ++ ys) = q.e := by
  obtain ⟨hk, he, _⟩ := may_nums ho h
  obtain ⟨t, k, e, i, s, u, c⟩ := q
  dsimp only at *
  refine ⟨?_, ?_⟩
  · unfold kO
    have e0 : (Ry.mk t k e i s u c).out ++ ys = leB t 4 ++ ([k] ++ ((leB e 2 ++ (ifB (hI k e) (leB i 4) ++ (ifB (hS k e) (leB s 2) ++ (ifB (hU k e) (leB u 8) ++ ifB (hC k e) (leB c 2))))) ++ ys)) := by unfold Ry.out; simp
    rw [e0, drop_pre _ _ _ (leB_length _ _), take_pre [k] _ 1 rfl, leV1]
  · unfold eO
    have e0 : (Ry.mk t k e i s u c).out ++ ys = (leB t 4 ++ [k]) ++ (leB e 2 ++ ((ifB (hI k e) (leB i 4) ++ (ifB (hS k e) (leB s 2) ++ (ifB (hU k e) (leB u 8) ++ ifB (hC k e) (leB c 2)))) ++ ys)) := by unfold Ry.out; simp
    rw [e0, drop_pre _ _ _ (by rw [List.length_append, leB_length]; rfl), take_pre _ _ _ (leB_length _ _), leV2 he.1 (by omega)]
/-- A reply that may be is read of its bytes, whatever lies behind. -/
theorem ryOf_out {q : Ry} (ho : q.Ok) (h : q.May) (ys : List Int) : ryOf (q.out ++ ys) = q := by
  obtain ⟨hk, he, hi2, ⟨hs0, hs1, hs2⟩, ⟨hu0, hu1, hu2⟩, hc0, hc1, hc2⟩ := may_nums ho h
  obtain ⟨ek, ee⟩ := out_ke ho h ys
  have ht0 := ho.t0
  have ht1 := ho.t1
  have hi0 := ho.i0
  have hi1 := ho.i1
  obtain ⟨t, k, e, i, s, u, c⟩ := q
  unfold ryOf
  rw [ek, ee]
  dsimp only at *
  have e0 : (Ry.mk t k e i s u c).out ++ ys = leB t 4 ++ ((k :: (leB e 2 ++ (ifB (hI k e) (leB i 4) ++ (ifB (hS k e) (leB s 2) ++ (ifB (hU k e) (leB u 8) ++ ifB (hC k e) (leB c 2)))))) ++ ys) := by unfold Ry.out; simp
  have e1 : (Ry.mk t k e i s u c).out ++ ys = (leB t 4 ++ (k :: leB e 2)) ++ (ifB (hI k e) (leB i 4) ++ ((ifB (hS k e) (leB s 2) ++ (ifB (hU k e) (leB u 8) ++ ifB (hC k e) (leB c 2))) ++ ys)) := by unfold Ry.out; simp
  have e2 : (Ry.mk t k e i s u c).out ++ ys = ((leB t 4 ++ (k :: leB e 2)) ++ ifB (hI k e) (leB i 4)) ++ (ifB (hS k e) (leB s 2) ++ ((ifB (hU k e) (leB u 8) ++ ifB (hC k e) (leB c 2)) ++ ys)) := by unfold Ry.out; simp
  have e3 : (Ry.mk t k e i s u c).out ++ ys = (((leB t 4 ++ (k :: leB e 2)) ++ ifB (hI k e) (leB i 4)) ++ ifB (hS k e) (leB s 2)) ++ (ifB (hU k e) (leB u 8) ++ (ifB (hC k e) (leB c 2) ++ ys)) := by unfold Ry.out; simp
  have e4 : (Ry.mk t k e i s u c).out ++ ys = ((((leB t 4 ++ (k :: leB e 2)) ++ ifB (hI k e) (leB i 4)) ++ ifB (hS k e) (leB s 2)) ++ ifB (hU k e) (leB u 8)) ++ (ifB (hC k e) (leB c 2) ++ ys) := by unfold Ry.out; simp
  have l1 : (leB t 4 ++ (k :: leB e 2)).length = 7 := by rw [List.length_append, List.length_cons, leB_length, leB_length]
  have l2 : ((leB t 4 ++ (k :: leB e 2)) ++ ifB (hI k e) (leB i 4)).length = aS k e := by rw [List.length_append, l1, ifB_length, leB_length]; rfl
  have l3 : (((leB t 4 ++ (k :: leB e 2)) ++ ifB (hI k e) (leB i 4)) ++ ifB (hS k e) (leB s 2)).length = aU k e := by rw [List.length_append, l2, ifB_length, leB_length]; rfl
  have l4 : ((((leB t 4 ++ (k :: leB e 2)) ++ ifB (hI k e) (leB i 4)) ++ ifB (hS k e) (leB s 2)) ++ ifB (hU k e) (leB u 8)).length = aC k e := by rw [List.length_append, l3, ifB_length, leB_length]; rfl
  have r0 : leV (((Ry.mk t k e i s u c).out ++ ys).take 4) = t := by rw [e0, take_pre _ _ _ (leB_length _ _), leV4 ht0 ht1]
  have r1 : num (hI k e) ((Ry.mk t k e i s u c).out ++ ys) 7 4 = i := by
    rw [e1]; exact num_at _ _ _ _ _ 4 _ l1 rfl (leV4 hi0 hi1) hi2
  have r2 : num (hS k e) ((Ry.mk t k e i s u c).out ++ ys) (aS k e) 2 = s := by
    rw [e2]; exact num_at _ _ _ _ _ 2 _ l2 rfl (leV2 hs0 (by omega)) hs2
  have r3 : num (hU k e) ((Ry.mk t k e i s u c).out ++ ys) (aU k e) 8 = u := by
    rw [e3]; exact num_at _ _ _ _ _ 8 _ l3 rfl (leV8 hu0 (by omega)) hu2
  have r4 : num (hC k e) ((Ry.mk t k e i s u c).out ++ ys) (aC k e) 2 = c := by
    rw [e4]; exact num_at _ _ _ _ _ 2 _ l4 rfl (leV2 hc0 (by omega)) hc2
  rw [r0, r1, r2, r3, r4, i64of_small (by omega)]
theorem szO_out {q : Ry} (ho : q.Ok) (h : q.May) (ys : List Int) : szO (q.out ++ ys) = sz q.k q.e := by
  obtain ⟨ek, ee⟩ := out_ke ho h ys
  unfold szO
  rw [ek, ee]
theorem getY_out {q : Ry} (ho : q.Ok) (h : q.May) : getY q.out = (q, 0) := by
  have hr := ryOf_out ho h []
  have hz := szO_out ho h []
  rw [List.append_nil] at hr hz
  unfold getY
  rw [hr, hz, if_pos ⟨out_length q, h⟩]
theorem getY_more {q : Ry} (ho : q.Ok) (h : q.May) (y : Int) (ys : List Int) : getY (q.out ++ y :: ys) = (zRy, 210) := by
  have hz := szO_out ho h (y :: ys)
  unfold getY
  rw [hz, if_neg (by rw [List.length_append, out_length, List.length_cons]; omega)]
theorem getY_less {q : Ry} (ho : q.Ok) (h : q.May) (n : Nat) (hn : n < sz q.k q.e) : getY (q.out.take n) = (zRy, 210) := by
  have hl : (q.out.take n).length = n := by rw [List.length_take, out_length]; omega
  unfold getY
  rw [hl]
  by_cases h7 : n < 7
  · have := (sz_le (kO (q.out.take n)) (eO (q.out.take n))).1
    rw [if_neg (by unfold szO; omega)]
  · have hz : szO (q.out.take n) = sz q.k q.e := by
      obtain ⟨ek, ee⟩ := out_ke ho h []
      rw [List.append_nil] at ek ee
      unfold szO
      have e1 : kO (q.out.take n) = kO q.out := by unfold kO; rw [List.drop_take, List.take_take, Nat.min_eq_left (by omega)]
      have e2 : eO (q.out.take n) = eO q.out := by unfold eO; rw [List.drop_take, List.take_take, Nat.min_eq_left (by omega)]
      rw [e1, e2, ek, ee]
    rw [hz, if_neg (by omega)]
theorem i64of_range {n : Int} (h0 : 0 ≤ n) (h1 : n < 18446744073709551616) : -9223372036854775808 ≤ i64of n ∧ i64of n ≤ 9223372036854775807 := by
  unfold i64of; split <;> omega
theorem val4 {xs : List Int} (h : Byt xs) (n : Nat) : 0 ≤ leV ((xs.drop n).take 4) ∧ leV ((xs.drop n).take 4) < 4294967296 := by
  obtain ⟨a, b⟩ := leV_bound _ ((h.drop n).take 4)
  refine ⟨a, Int.lt_of_lt_of_le b ?_⟩
  have : ((xs.drop n).take 4).length ≤ 4 := by rw [List.length_take]; omega
  generalize ((xs.drop n).take 4).length = m at *
  have h5 : m = 0 ∨ m = 1 ∨ m = 2 ∨ m = 3 ∨ m = 4 := by omega
  rcases h5 with rfl | rfl | rfl | rfl | rfl <;> decide
theorem val1 {xs : List Int} (h : Byt xs) (n : Nat) : 0 ≤ leV ((xs.drop n).take 1) ∧ leV ((xs.drop n).take 1) < 256 := by
  obtain ⟨a, b⟩ := leV_bound _ ((h.drop n).take 1)
  refine ⟨a, Int.lt_of_lt_of_le b ?_⟩
  have : ((xs.drop n).take 1).length ≤ 1 := by rw [List.length_take]; omega
  generalize ((xs.drop n).take 1).length = m at *
  have h5 : m = 0 ∨ m = 1 := by omega
  rcases h5 with rfl | rfl <;> decide
theorem val2 {xs : List Int} (h : Byt xs) (n : Nat) : 0 ≤ leV ((xs.drop n).take 2) ∧ leV ((xs.drop n).take 2) < 65536 := by
  obtain ⟨a, b⟩ := leV_bound _ ((h.drop n).take 2)
  refine ⟨a, Int.lt_of_lt_of_le b ?_⟩
  have : ((xs.drop n).take 2).length ≤ 2 := by rw [List.length_take]; omega
  generalize ((xs.drop n).take 2).length = m at *
  have h5 : m = 0 ∨ m = 1 ∨ m = 2 := by omega
  rcases h5 with rfl | rfl | rfl <;> decide
theorem val8 {xs : List Int} (h : Byt xs) (n : Nat) : 0 ≤ leV ((xs.drop n).take 8) ∧ leV ((xs.drop n).take 8) < 18446744073709551616 := by
  obtain ⟨a, b⟩ := leV_bound _ ((h.drop n).take 8)
  refine ⟨a, Int.lt_of_lt_of_le b ?_⟩
  have : ((xs.drop n).take 8).length ≤ 8 := by rw [List.length_take]; omega
  generalize ((xs.drop n).take 8).length = m at *
  have h5 : m = 0 ∨ m = 1 ∨ m = 2 ∨ m = 3 ∨ m = 4 ∨ m = 5 ∨ m = 6 ∨ m = 7 ∨ m = 8 := by omega
  rcases h5 with rfl | rfl | rfl | rfl | rfl | rfl | rfl | rfl | rfl <;> decide
theorem num_range {xs : List Int} (b : Bool) (a n : Nat) (m : Int) (_hm : 0 ≤ m) (h : 0 ≤ leV ((xs.drop a).take n) ∧ leV ((xs.drop a).take n) < m) (hp : 0 < m) : 0 ≤ num b xs a n ∧ num b xs a n < m := by
  unfold num
  cases b with
  | false => rw [if_neg (by decide)]; exact ⟨by decide, hp⟩
  | true => rw [if_pos rfl]; exact h
theorem ryOf_ok {xs : List Int} (h : Byt xs) : (ryOf xs).Ok := by
  have a := val4 h 0
  rw [List.drop_zero] at a
  have k := val1 h 4
  have e := val2 h 5
  have b := num_range (xs := xs) (hI (kO xs) (eO xs)) 7 4 4294967296 (by decide) (val4 h 7) (by decide)
  have c := num_range (xs := xs) (hS (kO xs) (eO xs)) (aS (kO xs) (eO xs)) 2 65536 (by decide) (val2 h _) (by decide)
  have d := num_range (xs := xs) (hU (kO xs) (eO xs)) (aU (kO xs) (eO xs)) 8 18446744073709551616 (by decide) (val8 h _) (by decide)
  have g := num_range (xs := xs) (hC (kO xs) (eO xs)) (aC (kO xs) (eO xs)) 2 65536 (by decide) (val2 h _) (by decide)
  have f := i64of_range d.1 d.2
  have hk : 0 ≤ kO xs ∧ kO xs < 256 := k
  have he : 0 ≤ eO xs ∧ eO xs < 65536 := e
  unfold ryOf
  exact ⟨a.1, a.2, by dsimp only; omega, by dsimp only; omega, by dsimp only; omega, by dsimp only; omega, b.1, b.2, by dsimp only; omega, by dsimp only; omega, f.1, f.2, by dsimp only; omega, by dsimp only; omega⟩
theorem back_n {xs : List Int} (h : Byt xs) (n m : Nat) (hl : n + m ≤ xs.length) : leB (leV ((xs.drop n).take m)) m = (xs.drop n).take m := by
  have := leB_leV _ ((h.drop n).take m)
  rw [show ((xs.drop n).take m).length = m by rw [List.length_take, List.length_drop]; omega] at this
  exact this
theorem i64of_may {n : Int} (h1 : n < 18446744073709551616) (h : 0 ≤ i64of n) : i64of n = n := by
  unfold i64of at h ⊢; split at h <;> rename_i hh
  · rw [if_pos hh]
  · omega
theorem num_back {xs : List Int} (h : Byt xs) (b : Bool) (a n : Nat) (hl : a + ifN b n ≤ xs.length) : ifB b (leB (num b xs a n) n) = (xs.drop a).take (ifN b n) := by
  unfold num
  cases b with
  | false => rw [show ifN false n = 0 from rfl, List.take_zero]; rfl
  | true => rw [if_pos rfl, show ifN true n = n from rfl] at *; exact back_n h a n (by exact hl)
theorem cut_at (xs : List Int) (a n b : Nat) (h : b = a + n) : (xs.drop a).take n ++ xs.drop b = xs.drop a := by
  subst h
  rw [← List.drop_drop, List.take_append_drop]
/-- What was read is written so. -/
theorem out_ryOf {xs : List Int} (h : Byt xs) (hm : (ryOf xs).May) (hl : xs.length = szO xs) : (ryOf xs).out = xs := by
  have hu := (may_nums (ryOf_ok h) hm).2.2.2.2.1.1
  have h8 := i64of_may (num_range (xs := xs) (hU (kO xs) (eO xs)) (aU (kO xs) (eO xs)) 8 18446744073709551616 (by decide) (val8 h _) (by decide)).2 (show 0 ≤ i64of _ from hu)
  have hz := sz_aC (kO xs) (eO xs)
  have z1 : aC (kO xs) (eO xs) = aU (kO xs) (eO xs) + ifN (hU (kO xs) (eO xs)) 8 := rfl
  have z2 : aU (kO xs) (eO xs) = aS (kO xs) (eO xs) + ifN (hS (kO xs) (eO xs)) 2 := rfl
  have z3 : aS (kO xs) (eO xs) = 7 + ifN (hI (kO xs) (eO xs)) 4 := rfl
  have hl2 : xs.length = aC (kO xs) (eO xs) + ifN (hC (kO xs) (eO xs)) 2 := hl.trans hz
  have hk : [kO xs] = (xs.drop 4).take 1 := by
    have h5 : 5 ≤ xs.length := by omega
    match xs, h5 with
    | a :: b :: c :: d :: e :: r, _ => simp [kO, leV]
  have t0 := back_n h 0 4 (by omega)
  rw [List.drop_zero] at t0
  have t5 := back_n h 5 2 (by omega)
  unfold ryOf Ry.out
  dsimp only
  rw [h8, t0, show leB (eO xs) 2 = (xs.drop 5).take 2 from t5, num_back h _ 7 4 (by omega), num_back h _ (aS (kO xs) (eO xs)) 2 (by omega), num_back h _ (aU (kO xs) (eO xs)) 8 (by omega), num_back h _ (aC (kO xs) (eO xs)) 2 (by omega)]
  have c8 : (xs.drop (aC (kO xs) (eO xs))).take (ifN (hC (kO xs) (eO xs)) 2) = xs.drop (aC (kO xs) (eO xs)) := List.take_of_length_le (by rw [List.length_drop]; omega)
  rw [c8, cut_at xs (aU (kO xs) (eO xs)) (ifN (hU (kO xs) (eO xs)) 8) _ z1, cut_at xs (aS (kO xs) (eO xs)) (ifN (hS (kO xs) (eO xs)) 2) _ z2, cut_at xs 7 (ifN (hI (kO xs) (eO xs)) 4) _ z3, cut_at xs 5 2 7 rfl]
  have e1 : kO xs :: xs.drop 5 = [kO xs] ++ xs.drop 5 := rfl
  rw [e1, hk, cut_at xs 4 1 5 rfl, List.take_append_drop]
/-- What Get answers, by cases. -/
theorem getY_cases (xs : List Int) : ((getY xs).2 = 0 ∧ (getY xs).1 = ryOf xs ∧ (ryOf xs).May ∧ xs.length = szO xs) ∨ ((getY xs).1 = zRy ∧ (getY xs).2 = 210 ∧ ¬ (xs.length = szO xs ∧ (ryOf xs).May)) := by
  unfold getY
  by_cases h : xs.length = szO xs ∧ (ryOf xs).May
  · rw [if_pos h]; exact Or.inl ⟨rfl, rfl, h.2, h.1⟩
  · rw [if_neg h]; exact Or.inr ⟨rfl, rfl, h⟩
/-- The document's Get: it may be, and these are its bytes. -/
theorem getY_doc {xs : List Int} (h : Byt xs) : getY xs = if (ryOf xs).May ∧ (ryOf xs).out = xs then (ryOf xs, 0) else (zRy, 210) := by
  by_cases hh : (ryOf xs).May ∧ (ryOf xs).out = xs
  · rw [if_pos hh]
    have := getY_out (ryOf_ok h) hh.1
    rw [hh.2] at this
    exact this
  · rw [if_neg hh]
    rcases getY_cases xs with ⟨_, _, c, d⟩ | ⟨a, b, _⟩
    · exact absurd ⟨c, out_ryOf h c d⟩ hh
    · exact Prod.ext a b
/-- Two that may be, one of whose bytes begin as the other's are, are one. -/
theorem out_prefix {q r : Ry} (hq : q.Ok) (mq : q.May) (hr : r.Ok) (mr : r.May) (n : Nat) (hn : n = min q.out.length r.out.length) (h : q.out.take n = r.out.take n) : q = r := by
  have key : ∀ {a b : Ry}, a.Ok → a.May → b.Ok → b.May → a.out.length ≤ b.out.length → a.out = b.out.take a.out.length → a = b := by
    intro a b ha ma hb mb hl he
    have e1 : b.out = a.out ++ b.out.drop a.out.length := by
      conv => lhs; rw [← List.take_append_drop a.out.length b.out, ← he]
    have r1 := ryOf_out ha ma (b.out.drop a.out.length)
    have r2 := ryOf_out hb mb []
    rw [List.append_nil, e1] at r2
    exact r1.symm.trans r2
  by_cases hl : q.out.length ≤ r.out.length
  · rw [hn, Nat.min_eq_left hl, List.take_length] at h
    exact key hq mq hr mr hl h
  · rw [hn, Nat.min_eq_right (by omega), List.take_length] at h
    exact (key hr mr hq mq (by omega) h.symm).symm
end Go.Proofs.YtoflohjlmagjpaaDoor
