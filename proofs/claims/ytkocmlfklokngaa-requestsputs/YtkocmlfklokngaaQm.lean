/- The document's requests: what a kind has, Check, a part's number, bytes as a text. -/
import Derived.Test.YtkocmlfklokngaaQg
import Derived.Test.YtkocmlfklokngaaRefNum
import Derived.Test.YtkocmlfklokngaaRef
import Derived.Laws.BytesArg
namespace Go.Proofs.Ytkocmlfklokngaa
open Go.RowKit
attribute [local go_sem ↓] Go.wp_at_zero Go.wp_at_succ
theorem rhas_any (k : Int) (w : World) : Calls Try.prog 27 #[.int .i64 k] w fun e w' => e = .returned (.tuple #[.bool (hI k), .bool (hS k), .bool (hL k)]) ∧ w' = w := by
  by_cases h1 : k = 1
  · subst h1
    go_enter Try.func27, Try.ntmps27
    go_wp2
    go_ret3
    exact ⟨rfl, rfl⟩
  by_cases h2 : k = 2
  · subst h2
    go_enter Try.func27, Try.ntmps27
    go_wp2
    go_ret3
    exact ⟨rfl, rfl⟩
  by_cases h3 : k = 3
  · subst h3
    go_enter Try.func27, Try.ntmps27
    go_wp2
    go_ret3
    exact ⟨rfl, rfl⟩
  by_cases h5 : k = 5
  · subst h5
    go_enter Try.func27, Try.ntmps27
    go_wp2
    go_ret3
    exact ⟨rfl, rfl⟩
  by_cases h4 : k = 4
  · subst h4
    go_enter Try.func27, Try.ntmps27
    go_wp2
    go_ret3
    exact ⟨rfl, rfl⟩
  by_cases h6 : k = 6
  · subst h6
    go_enter Try.func27, Try.ntmps27
    go_wp2
    go_ret3
    exact ⟨rfl, rfl⟩
  by_cases h7 : k = 7
  · subst h7
    go_enter Try.func27, Try.ntmps27
    go_wp2
    go_ret3
    exact ⟨rfl, rfl⟩
  rw [show hI k = false from decide_eq_false (by omega), show hS k = false from decide_eq_false (by omega), show hL k = false from decide_eq_false (by omega)]
  have a1 : (k == 1) = false := by simpa using h1
  have b1 : decide (k = 1) = false := by simpa using h1
  have a2 : (k == 2) = false := by simpa using h2
  have b2 : decide (k = 2) = false := by simpa using h2
  have a3 : (k == 3) = false := by simpa using h3
  have b3 : decide (k = 3) = false := by simpa using h3
  have a5 : (k == 5) = false := by simpa using h5
  have b5 : decide (k = 5) = false := by simpa using h5
  have a4 : (k == 4) = false := by simpa using h4
  have b4 : decide (k = 4) = false := by simpa using h4
  have a6 : (k == 6) = false := by simpa using h6
  have b6 : decide (k = 6) = false := by simpa using h6
  have a7 : (k == 7) = false := by simpa using h7
  have b7 : decide (k = 7) = false := by simpa using h7
  go_enter Try.func27, Try.ntmps27
  go_wp2
  go_ret3
  exact ⟨rfl, rfl⟩
theorem may_iff {q : Rq} (ho : q.Ok) : q.May ↔ (1 ≤ q.k ∧ q.k ≤ 10) ∧ (0 ≤ q.s ∧ q.s ≤ 65535) ∧ 0 ≤ q.u ∧ (hI q.k = false → q.i = 0) ∧ (hS q.k = false → q.s = 0) ∧ (hL q.k = false → q.u = 0) := by
  constructor
  · intro h
    obtain ⟨a, b, c, d⟩ := may_nums h
    exact ⟨a, ⟨c.1, c.2.1⟩, d.1, b.2.2, c.2.2, d.2.2⟩
  · rintro ⟨a, b, c, d, e, f⟩
    have i0 := ho.i0
    have i1 := ho.i1
    have u1 := ho.u1
    unfold Rq.May Rq.mayB
    simp only [Bool.and_eq_true, decide_eq_true_eq]
    refine ⟨a, ?_, ?_, ?_⟩
    · unfold inP
      cases hh : hI q.k with
      | false => rw [if_neg (by decide)]; exact decide_eq_true (d hh)
      | true => rw [if_pos rfl]; exact decide_eq_true ⟨i0, by omega⟩
    · unfold inP
      cases hh : hS q.k with
      | false => rw [if_neg (by decide)]; exact decide_eq_true (e hh)
      | true => rw [if_pos rfl]; exact decide_eq_true b
    · unfold inP
      cases hh : hL q.k with
      | false => rw [if_neg (by decide)]; exact decide_eq_true (f hh)
      | true => rw [if_pos rfl]; exact decide_eq_true ⟨c, u1⟩
set_option maxRecDepth 20000 in
set_option maxHeartbeats 8000000 in
theorem rcheck_any (q : Rq) (ho : q.Ok) (w : World) : Calls Try.prog 13 #[rqV q] w fun e w' => e = .returned (.int .i64 (chk q)) ∧ w.grownBy w' none := by
  obtain ⟨res, hres⟩ : ∃ res, res = chk q := ⟨_, rfl⟩
  rw [← hres]
  have HR := hide hres
  have HM := hide (may_iff ho)
  have H0 : Hid (¬ q.May → res = 200) := fun h => by rw [HR.out]; exact if_neg h
  have H1 : Hid (q.May → res = 0) := fun h => by rw [HR.out]; exact if_pos h
  clear hres ho
  have S0 := hide (CkS.begin w q)
  have qh := rhas_any q.k
  generalize hI q.k = bI at *
  generalize hS q.k = bS at *
  generalize hL q.k = bL at *
  unfold rqV
  obtain ⟨c0, c1, c2, c3, c4⟩ := box5 S0.out.box
  go_enter Try.func13, Try.ntmps13
  go_wp2_with fail
  generalize w.alloc (.cells #[.int .i64 q.k, .int .u32 q.t, .int .u32 q.i, .int .i64 q.s, .int .i64 q.u] 25) = w1 at *
  refine (qh w1).mono ?_
  clear qh
  rintro e wx ⟨rfl, hw⟩
  obtain rfl := hw.symm
  clear hw
  by_cases k1 : q.k < 1
  · have z0 : decide (q.k < 1) = true := decide_eq_true k1
    have HZ : Hid (res = 200) := H0.out (fun h => by have hh := HM.out.1 h; omega)
    go_wp2
    go_ret
    exact ⟨by rw [HZ.out]; rfl, S0.out.gr⟩
  have k1f : decide (q.k < 1) = false := decide_eq_false k1
  by_cases k2 : 10 < q.k
  · have z0 : decide (10 < q.k) = true := decide_eq_true k2
    have HZ : Hid (res = 200) := H0.out (fun h => by have hh := HM.out.1 h; omega)
    go_wp2
    go_ret
    exact ⟨by rw [HZ.out]; rfl, S0.out.gr⟩
  have k2f : decide (10 < q.k) = false := decide_eq_false k2
  by_cases s1 : q.s < 0
  · have z0 : decide (q.s < 0) = true := decide_eq_true s1
    have HZ : Hid (res = 200) := H0.out (fun h => by have hh := HM.out.1 h; omega)
    go_wp2
    go_ret
    exact ⟨by rw [HZ.out]; rfl, S0.out.gr⟩
  have s1f : decide (q.s < 0) = false := decide_eq_false s1
  by_cases s2 : 65535 < q.s
  · have z0 : decide (65535 < q.s) = true := decide_eq_true s2
    have HZ : Hid (res = 200) := H0.out (fun h => by have hh := HM.out.1 h; omega)
    go_wp2
    go_ret
    exact ⟨by rw [HZ.out]; rfl, S0.out.gr⟩
  have s2f : decide (65535 < q.s) = false := decide_eq_false s2
  by_cases u1 : q.u < 0
  · have z0 : decide (q.u < 0) = true := decide_eq_true u1
    have HZ : Hid (res = 200) := H0.out (fun h => by have hh := HM.out.1 h; omega)
    go_wp2
    go_ret
    exact ⟨by rw [HZ.out]; rfl, S0.out.gr⟩
  have u1f : decide (q.u < 0) = false := decide_eq_false u1
  have HK := hide (And.intro k1 (And.intro k2 (And.intro s1 (And.intro s2 u1))))
  clear k1 k2 s1 s2 u1
  cases bI with
  | true =>
    cases bS with
    | true =>
      cases bL with
      | true =>
        have HZ : Hid (res = 0) := H1.out (HM.out.2 ⟨by have := HK.out; omega, by have := HK.out; omega, by have := HK.out; omega, (fun e => by cases e), (fun e => by cases e), (fun e => by cases e)⟩)
        skip
        go_wp2
        go_ret
        exact ⟨by rw [HZ.out]; rfl, S0.out.gr⟩
      | false =>
        by_cases zu : q.u = 0
        · have xu : (q.u == 0) = true := by simpa using zu
          have yu : (q.u != 0) = false := by simpa using zu
          have vu : decide (q.u = 0) = true := decide_eq_true zu
          have HZ : Hid (res = 0) := H1.out (HM.out.2 ⟨by have := HK.out; omega, by have := HK.out; omega, by have := HK.out; omega, (fun e => by cases e), (fun e => by cases e), (fun _ => zu)⟩)
          skip; clear zu
          go_wp2
          go_ret
          exact ⟨by rw [HZ.out]; rfl, S0.out.gr⟩
        · have xu : (q.u == 0) = false := by simpa using zu
          have yu : (q.u != 0) = true := by simpa using zu
          have vu : decide (q.u = 0) = false := decide_eq_false zu
          have HZ : Hid (res = 200) := H0.out (fun h => by have hh := HM.out.1 h; exact zu (hh.2.2.2.2.2 rfl))
          clear zu
          go_wp2
          go_ret
          exact ⟨by rw [HZ.out]; rfl, S0.out.gr⟩
    | false =>
      by_cases zs : q.s = 0
      · have xs : (q.s == 0) = true := by simpa using zs
        have ys : (q.s != 0) = false := by simpa using zs
        have vs : decide (q.s = 0) = true := decide_eq_true zs
        cases bL with
        | true =>
          have HZ : Hid (res = 0) := H1.out (HM.out.2 ⟨by have := HK.out; omega, by have := HK.out; omega, by have := HK.out; omega, (fun e => by cases e), (fun _ => zs), (fun e => by cases e)⟩)
          skip; clear zs
          go_wp2
          go_ret
          exact ⟨by rw [HZ.out]; rfl, S0.out.gr⟩
        | false =>
          by_cases zu : q.u = 0
          · have xu : (q.u == 0) = true := by simpa using zu
            have yu : (q.u != 0) = false := by simpa using zu
            have vu : decide (q.u = 0) = true := decide_eq_true zu
            have HZ : Hid (res = 0) := H1.out (HM.out.2 ⟨by have := HK.out; omega, by have := HK.out; omega, by have := HK.out; omega, (fun e => by cases e), (fun _ => zs), (fun _ => zu)⟩)
            skip; clear zs; clear zu
            go_wp2
            go_ret
            exact ⟨by rw [HZ.out]; rfl, S0.out.gr⟩
          · have xu : (q.u == 0) = false := by simpa using zu
            have yu : (q.u != 0) = true := by simpa using zu
            have vu : decide (q.u = 0) = false := decide_eq_false zu
            have HZ : Hid (res = 200) := H0.out (fun h => by have hh := HM.out.1 h; exact zu (hh.2.2.2.2.2 rfl))
            clear zu zs
            go_wp2
            go_ret
            exact ⟨by rw [HZ.out]; rfl, S0.out.gr⟩
      · have xs : (q.s == 0) = false := by simpa using zs
        have ys : (q.s != 0) = true := by simpa using zs
        have vs : decide (q.s = 0) = false := decide_eq_false zs
        have HZ : Hid (res = 200) := H0.out (fun h => by have hh := HM.out.1 h; exact zs (hh.2.2.2.2.1 rfl))
        clear zs
        go_wp2
        go_ret
        exact ⟨by rw [HZ.out]; rfl, S0.out.gr⟩
  | false =>
    by_cases zi : q.i = 0
    · have xi : (q.i == 0) = true := by simpa using zi
      have yi : (q.i != 0) = false := by simpa using zi
      have vi : decide (q.i = 0) = true := decide_eq_true zi
      cases bS with
      | true =>
        cases bL with
        | true =>
          have HZ : Hid (res = 0) := H1.out (HM.out.2 ⟨by have := HK.out; omega, by have := HK.out; omega, by have := HK.out; omega, (fun _ => zi), (fun e => by cases e), (fun e => by cases e)⟩)
          skip; clear zi
          go_wp2
          go_ret
          exact ⟨by rw [HZ.out]; rfl, S0.out.gr⟩
        | false =>
          by_cases zu : q.u = 0
          · have xu : (q.u == 0) = true := by simpa using zu
            have yu : (q.u != 0) = false := by simpa using zu
            have vu : decide (q.u = 0) = true := decide_eq_true zu
            have HZ : Hid (res = 0) := H1.out (HM.out.2 ⟨by have := HK.out; omega, by have := HK.out; omega, by have := HK.out; omega, (fun _ => zi), (fun e => by cases e), (fun _ => zu)⟩)
            skip; clear zi; clear zu
            go_wp2
            go_ret
            exact ⟨by rw [HZ.out]; rfl, S0.out.gr⟩
          · have xu : (q.u == 0) = false := by simpa using zu
            have yu : (q.u != 0) = true := by simpa using zu
            have vu : decide (q.u = 0) = false := decide_eq_false zu
            have HZ : Hid (res = 200) := H0.out (fun h => by have hh := HM.out.1 h; exact zu (hh.2.2.2.2.2 rfl))
            clear zu zi
            go_wp2
            go_ret
            exact ⟨by rw [HZ.out]; rfl, S0.out.gr⟩
      | false =>
        by_cases zs : q.s = 0
        · have xs : (q.s == 0) = true := by simpa using zs
          have ys : (q.s != 0) = false := by simpa using zs
          have vs : decide (q.s = 0) = true := decide_eq_true zs
          cases bL with
          | true =>
            have HZ : Hid (res = 0) := H1.out (HM.out.2 ⟨by have := HK.out; omega, by have := HK.out; omega, by have := HK.out; omega, (fun _ => zi), (fun _ => zs), (fun e => by cases e)⟩)
            skip; clear zi; clear zs
            go_wp2
            go_ret
            exact ⟨by rw [HZ.out]; rfl, S0.out.gr⟩
          | false =>
            by_cases zu : q.u = 0
            · have xu : (q.u == 0) = true := by simpa using zu
              have yu : (q.u != 0) = false := by simpa using zu
              have vu : decide (q.u = 0) = true := decide_eq_true zu
              have HZ : Hid (res = 0) := H1.out (HM.out.2 ⟨by have := HK.out; omega, by have := HK.out; omega, by have := HK.out; omega, (fun _ => zi), (fun _ => zs), (fun _ => zu)⟩)
              skip; clear zi; clear zs; clear zu
              go_wp2
              go_ret
              exact ⟨by rw [HZ.out]; rfl, S0.out.gr⟩
            · have xu : (q.u == 0) = false := by simpa using zu
              have yu : (q.u != 0) = true := by simpa using zu
              have vu : decide (q.u = 0) = false := decide_eq_false zu
              have HZ : Hid (res = 200) := H0.out (fun h => by have hh := HM.out.1 h; exact zu (hh.2.2.2.2.2 rfl))
              clear zu zi zs
              go_wp2
              go_ret
              exact ⟨by rw [HZ.out]; rfl, S0.out.gr⟩
        · have xs : (q.s == 0) = false := by simpa using zs
          have ys : (q.s != 0) = true := by simpa using zs
          have vs : decide (q.s = 0) = false := decide_eq_false zs
          have HZ : Hid (res = 200) := H0.out (fun h => by have hh := HM.out.1 h; exact zs (hh.2.2.2.2.1 rfl))
          clear zs zi
          go_wp2
          go_ret
          exact ⟨by rw [HZ.out]; rfl, S0.out.gr⟩
    · have xi : (q.i == 0) = false := by simpa using zi
      have yi : (q.i != 0) = true := by simpa using zi
      have vi : decide (q.i = 0) = false := decide_eq_false zi
      have HZ : Hid (res = 200) := H0.out (fun h => by have hh := HM.out.1 h; exact zi (hh.2.2.2.1 rfl))
      clear zi
      go_wp2
      go_ret
      exact ⟨by rw [HZ.out]; rfl, S0.out.gr⟩
/-- Bytes as a text. -/
theorem conv_any {w : World} {ao : Option Addr} {n cap : Nat} {xs : List Int} (hl : xs.length = n) (hb : Byt xs) (hat : At w ao xs) (hnil : ao = none → n = 0) : (convert 27 9 (.slice ao n cap)).run Try.prog w = .ok (.string (strOfNums xs)) w := by
  subst hl
  cases ao with
  | none =>
    have : xs = [] := List.eq_nil_of_length_eq_zero (hnil rfl)
    subst this
    exact run_convert_bytes_nil (P := Try.prog) w 27 5 Try.underlying27 Try.underlying5 _ _ 9 Try.underlying9
  | some ad =>
    have h := run_convert_bytes_back (P := Try.prog) w 27 9 5 ad cap (xs.map fun n => UInt8.ofNat n.toNat) Try.underlying27 Try.underlying5 Try.underlying9 (by
      intro j hj
      rw [List.length_map] at hj
      obtain ⟨a', e, hc⟩ := hat j xs[j] (List.getElem?_eq_getElem hj)
      cases e
      rw [hc, List.getElem_map, UInt8.toNat_ofNat']
      have := hb xs[j] (List.getElem_mem hj)
      congr 2
      omega)
    rw [List.length_map] at h
    exact h
theorem str_inj : ∀ {xs ys : List Int}, Byt xs → Byt ys → strOfNums xs = strOfNums ys → xs = ys := by
  intro xs ys hx hy h
  have h2 : xs.map (fun n => UInt8.ofNat n.toNat) = ys.map (fun n => UInt8.ofNat n.toNat) := by
    have := congrArg (fun b => b.data.toList) h
    simpa [strOfNums] using this
  clear h
  induction xs generalizing ys with
  | nil =>
    cases ys with
    | nil => rfl
    | cons y r => simp at h2
  | cons x r ih =>
    cases ys with
    | nil => simp at h2
    | cons y s =>
      simp only [List.map_cons, List.cons.injEq] at h2
      have e := congrArg UInt8.toNat h2.1
      rw [UInt8.toNat_ofNat', UInt8.toNat_ofNat'] at e
      have a := hx x (List.mem_cons_self ..)
      have b := hy y (List.mem_cons_self ..)
      rw [ih hx.tail hy.tail h2.2]
      congr 1
      omega
/-- The number of the bytes at a place, 0 if they are not there. -/
def prt (xs : List Int) (a m : Nat) : Int := if a + m ≤ xs.length then leV ((xs.drop a).take m) else 0
theorem part_any (ao : Option Addr) (n cap : Nat) (xs : List Int) (a m : Nat) (A M : Int) (w : World) (hA : A = (a : Int)) (hM : M = (m : Int)) (hn : xs.length = n) (hat : At w ao xs) (hB : Byt xs) (hc : n ≤ cap) (ha : a ≤ 100) (hm : m ≤ 8) (_hb : n ≤ 140737488355328) :
    Calls Try.prog 35 #[.slice ao n cap, .int .i64 A, .int .i64 M] w fun e w' => e = .returned (.int .u64 (prt xs a m)) ∧ w' = w := by
  subst hA hM
  have hw : IntKind.i64.wrap ((a : Int) + (m : Int)) = ((a + m : Nat) : Int) := by rw [IntKind.wrap_i64]; omega
  by_cases hl : a + m ≤ n
  · have e1 : prt xs a m = leV ((xs.drop a).take m) := if_pos (by omega)
    rw [e1]
    have hlt : ((a + m : Nat) : Int) ≤ (n : Int) := by omega
    have hlf : decide ((n : Int) < ((a + m : Nat) : Int)) = false := decide_eq_false (by omega)
    have hs := slice_lh ao n cap a (a + m) (by omega) (by omega)
    rw [show a + m - a = m by omega] at hs
    have qv := value_any (cutA ao a cap) m (cap - a) ((xs.drop a).take m) w (by rw [List.length_take, List.length_drop]; omega) ((hat.cut a cap (by omega)).take m) ((hB.drop a).take m) hm
    generalize leV ((xs.drop a).take m) = V at *
    clear e1 hn hat hB ha hm _hb hl
    generalize ((a + m : Nat) : Int) = S at *
    generalize cutA ao a cap = ac at *
    generalize cap - a = cc at *
    go_enter Try.func35, Try.ntmps35
    go_wp2_with fail
    refine qv.mono ?_
    clear qv
    rintro e w2 ⟨rfl, rfl⟩
    go_wp2
    go_ret
    exact ⟨rfl, rfl⟩
  · have e1 : prt xs a m = 0 := if_neg (by omega)
    rw [e1]
    have hlt : (n : Int) < ((a + m : Nat) : Int) := by omega
    clear e1 hn hat hB ha hm _hb hl
    generalize ((a + m : Nat) : Int) = S at *
    go_enter Try.func35, Try.ntmps35
    go_wp2
    go_ret
    exact ⟨rfl, rfl⟩
end Go.Proofs.Ytkocmlfklokngaa
