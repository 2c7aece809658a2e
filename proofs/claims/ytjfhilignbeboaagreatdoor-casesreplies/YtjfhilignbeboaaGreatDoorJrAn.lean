/- Texts joined: Qa, Yx, Ya, Ca0, Cs0. -/
import Derived.Laws.ResultCell
import Derived.Laws.EntriesVeiled
import Derived.LoopN
import Derived.Test.YtjfhilignbeboaaGreatDoorJrAa
import Derived.Test.YtjfhilignbeboaaGreatDoorJrAm
import Derived.Test.YtjfhilignbeboaaGreatDoorChecked
import Derived.Test.YtjfhilignbeboaaGreatDoorJrAd
/- requests: parts, what a kind has. -/
namespace Go.Proofs.YtjfhilignbeboaaGreatDoor.Rs
open Go.RowKit
attribute [local go_sem ↓] Go.wp_at_zero Go.wp_at_succ
def rqV (q : Rq) : Value := .agg #[.int .i64 q.k, .int .u32 q.t, .int .u32 q.i, .int .i64 q.s, .int .i64 q.u]
def rqC (q : Rq) : List Value := [.int .i64 q.k, .int .u32 q.t, .int .u32 q.i, .int .i64 q.s, .int .i64 q.u]
theorem results_cell1 {fn : Func} {p : Tmp} {ty : TypeId} (h : fn.results = #[.cell p ty]) (tmps : Array Value) (P : Program) (w : World) :
    (results fn tmps).run P w = ((asAddr (tmps.getD p undef)).run P w).andThen fun a w₁ => (loadVar ty a).run P w₁ := by
  simp only [results, h]
  simp [Sem.run_bind, Result.andThen]
theorem isKind_any (k : Int) (w : World) : Calls Tryz.prog 72 #[.int .i64 k] w fun e w' => e = .returned (.bool (decide (1 ≤ k ∧ k ≤ 10))) ∧ w' = w := by
  by_cases h1 : 1 ≤ k
  · by_cases h2 : k ≤ 10
    · rw [decide_eq_true (show 1 ≤ k ∧ k ≤ 10 from ⟨h1, h2⟩)]
      go_enter Tryz.func72, Tryz.ntmps72
      go_wp2
      go_ret
      exact ⟨rfl, rfl⟩
    · rw [decide_eq_false (show ¬ (1 ≤ k ∧ k ≤ 10) from fun h => h2 h.2)]
      go_enter Tryz.func72, Tryz.ntmps72
      go_wp2
      go_ret
      exact ⟨rfl, rfl⟩
  · rw [decide_eq_false (show ¬ (1 ≤ k ∧ k ≤ 10) from fun h => h1 h.1)]
    go_enter Tryz.func72, Tryz.ntmps72
    go_wp2
    go_ret
    exact ⟨rfl, rfl⟩
def partsV : Value := .agg #[.int .i64 4294967295, .func (.func 120) #[] #[], .func (.func 121) #[] #[], .func (.func 122) #[] #[], .func (.func 124) #[] #[], .int .i64 65535, .func (.func 126) #[] #[], .func (.func 127) #[] #[], .func (.func 128) #[] #[], .func (.func 130) #[] #[], .int .i64 9223372036854775807, .func (.func 132) #[] #[], .func (.func 133) #[] #[], .func (.func 134) #[] #[], .func (.func 136) #[] #[]]
theorem parts_any (w : World) : Calls Tryz.prog 73 #[] w fun e w' => e = .returned partsV ∧ w.grownBy w' none := by
  unfold partsV
  go_enter Tryz.func73, Tryz.ntmps73
  go_wp2
  have b := heap_alloc_new w (.cells [Value.int .i64 4294967295, .func (.func 120) #[] #[], .func (.func 121) #[] #[], .func (.func 122) #[] #[], .func (.func 124) #[] #[], .int .i64 65535, .func (.func 126) #[] #[], .func (.func 127) #[] #[], .func (.func 128) #[] #[], .func (.func 130) #[] #[], .int .i64 9223372036854775807, .func (.func 132) #[] #[], .func (.func 133) #[] #[], .func (.func 134) #[] #[], .func (.func 136) #[] #[]].toArray 134)
  have G := hide (World.grownBy_alloc w (.cells #[.int .i64 4294967295, .func (.func 120) #[] #[], .func (.func 121) #[] #[], .func (.func 122) #[] #[], .func (.func 124) #[] #[], .int .i64 65535, .func (.func 126) #[] #[], .func (.func 127) #[] #[], .func (.func 128) #[] #[], .func (.func 130) #[] #[], .int .i64 9223372036854775807, .func (.func 132) #[] #[], .func (.func 133) #[] #[], .func (.func 134) #[] #[], .func (.func 136) #[] #[]] 134) none)

  have c0 := cell_row b 0
  have c1 := cell_row b 1
  have c2 := cell_row b 2
  have c3 := cell_row b 3
  have c4 := cell_row b 4
  have c5 := cell_row b 5
  have c6 := cell_row b 6
  have c7 := cell_row b 7
  have c8 := cell_row b 8
  have c9 := cell_row b 9
  have c10 := cell_row b 10
  have c11 := cell_row b 11
  have c12 := cell_row b 12
  have c13 := cell_row b 13
  have c14 := cell_row b 14
  clear b
  generalize w.alloc (.cells #[.int .i64 4294967295, .func (.func 120) #[] #[], .func (.func 121) #[] #[], .func (.func 122) #[] #[], .func (.func 124) #[] #[], .int .i64 65535, .func (.func 126) #[] #[], .func (.func 127) #[] #[], .func (.func 128) #[] #[], .func (.func 130) #[] #[], .int .i64 9223372036854775807, .func (.func 132) #[] #[], .func (.func 133) #[] #[], .func (.func 134) #[] #[], .func (.func 136) #[] #[]] 134) = w1 at *
  refine bodyPost_ret (v := .agg #[.int .i64 4294967295, .func (.func 120) #[] #[], .func (.func 121) #[] #[], .func (.func 122) #[] #[], .func (.func 124) #[] #[], .int .i64 65535, .func (.func 126) #[] #[], .func (.func 127) #[] #[], .func (.func 128) #[] #[], .func (.func 130) #[] #[], .int .i64 9223372036854775807, .func (.func 132) #[] #[], .func (.func 133) #[] #[], .func (.func 134) #[] #[], .func (.func 136) #[] #[]]) ?_ rfl ?_
  · rw [results_cell1 rfl]; go_simp
  exact ⟨rfl, G.out⟩
theorem hasId_any (k : Int) (w : World) : Calls Tryz.prog 120 #[.int .i64 k] w fun e w' => e = .returned (.bool (hI k)) ∧ w' = w := by
  by_cases h2 : k = 2
  · subst h2
    go_enter Tryz.func120, Tryz.ntmps120
    go_wp2
    go_ret
    exact ⟨rfl, rfl⟩
  by_cases h3 : k = 3
  · subst h3
    go_enter Tryz.func120, Tryz.ntmps120
    go_wp2
    go_ret
    exact ⟨rfl, rfl⟩
  by_cases h4 : k = 4
  · subst h4
    go_enter Tryz.func120, Tryz.ntmps120
    go_wp2
    go_ret
    exact ⟨rfl, rfl⟩
  by_cases h5 : k = 5
  · subst h5
    go_enter Tryz.func120, Tryz.ntmps120
    go_wp2
    go_ret
    exact ⟨rfl, rfl⟩
  rw [show hI k = false from decide_eq_false (by omega)]
  have a2 : (k == 2) = false := by simpa using h2
  have b2 : decide (k = 2) = false := by simpa using h2
  have a3 : (k == 3) = false := by simpa using h3
  have b3 : decide (k = 3) = false := by simpa using h3
  have a4 : (k == 4) = false := by simpa using h4
  have b4 : decide (k = 4) = false := by simpa using h4
  have a5 : (k == 5) = false := by simpa using h5
  have b5 : decide (k = 5) = false := by simpa using h5
  go_enter Tryz.func120, Tryz.ntmps120
  go_wp2
  go_ret
  exact ⟨rfl, rfl⟩
theorem hasSeat_any (k : Int) (w : World) : Calls Tryz.prog 126 #[.int .i64 k] w fun e w' => e = .returned (.bool (hS k)) ∧ w' = w := by
  by_cases h1 : k = 1
  · subst h1
    go_enter Tryz.func126, Tryz.ntmps126
    go_wp2
    go_ret
    exact ⟨rfl, rfl⟩
  by_cases h4 : k = 4
  · subst h4
    go_enter Tryz.func126, Tryz.ntmps126
    go_wp2
    go_ret
    exact ⟨rfl, rfl⟩
  by_cases h6 : k = 6
  · subst h6
    go_enter Tryz.func126, Tryz.ntmps126
    go_wp2
    go_ret
    exact ⟨rfl, rfl⟩
  rw [show hS k = false from decide_eq_false (by omega)]
  have a1 : (k == 1) = false := by simpa using h1
  have b1 : decide (k = 1) = false := by simpa using h1
  have a4 : (k == 4) = false := by simpa using h4
  have b4 : decide (k = 4) = false := by simpa using h4
  have a6 : (k == 6) = false := by simpa using h6
  have b6 : decide (k = 6) = false := by simpa using h6
  go_enter Tryz.func126, Tryz.ntmps126
  go_wp2
  go_ret
  exact ⟨rfl, rfl⟩
theorem hasTtl_any (k : Int) (w : World) : Calls Tryz.prog 132 #[.int .i64 k] w fun e w' => e = .returned (.bool (hL k)) ∧ w' = w := by
  by_cases h1 : k = 1
  · subst h1
    go_enter Tryz.func132, Tryz.ntmps132
    go_wp2
    go_ret
    exact ⟨rfl, rfl⟩
  by_cases h7 : k = 7
  · subst h7
    go_enter Tryz.func132, Tryz.ntmps132
    go_wp2
    go_ret
    exact ⟨rfl, rfl⟩
  rw [show hL k = false from decide_eq_false (by omega)]
  have a1 : (k == 1) = false := by simpa using h1
  have b1 : decide (k = 1) = false := by simpa using h1
  have a7 : (k == 7) = false := by simpa using h7
  have b7 : decide (k = 7) = false := by simpa using h7
  go_enter Tryz.func132, Tryz.ntmps132
  go_wp2
  go_ret
  exact ⟨rfl, rfl⟩
/-- The kinds that change something. -/
def chg (k : Int) : Bool := decide (k = 1 ∨ k = 2 ∨ k = 3 ∨ k = 4 ∨ k = 7)
theorem changes_any (k : Int) (w : World) : Calls Tryz.prog 32 #[.int .i64 k] w fun e w' => e = .returned (.bool (chg k)) ∧ w' = w := by
  by_cases h1 : k = 1
  · subst h1
    go_enter Tryz.func32, Tryz.ntmps32
    go_wp2
    go_ret
    exact ⟨rfl, rfl⟩
  by_cases h2 : k = 2
  · subst h2
    go_enter Tryz.func32, Tryz.ntmps32
    go_wp2
    go_ret
    exact ⟨rfl, rfl⟩
  by_cases h3 : k = 3
  · subst h3
    go_enter Tryz.func32, Tryz.ntmps32
    go_wp2
    go_ret
    exact ⟨rfl, rfl⟩
  by_cases h4 : k = 4
  · subst h4
    go_enter Tryz.func32, Tryz.ntmps32
    go_wp2
    go_ret
    exact ⟨rfl, rfl⟩
  by_cases h7 : k = 7
  · subst h7
    go_enter Tryz.func32, Tryz.ntmps32
    go_wp2
    go_ret
    exact ⟨rfl, rfl⟩
  rw [show chg k = false from decide_eq_false (by omega)]
  have a1 : (k == 1) = false := by simpa using h1
  have b1 : decide (k = 1) = false := by simpa using h1
  have a2 : (k == 2) = false := by simpa using h2
  have b2 : decide (k = 2) = false := by simpa using h2
  have a3 : (k == 3) = false := by simpa using h3
  have b3 : decide (k = 3) = false := by simpa using h3
  have a4 : (k == 4) = false := by simpa using h4
  have b4 : decide (k = 4) = false := by simpa using h4
  have a7 : (k == 7) = false := by simpa using h7
  have b7 : decide (k = 7) = false := by simpa using h7
  go_enter Tryz.func32, Tryz.ntmps32
  go_wp2
  go_ret
  exact ⟨rfl, rfl⟩
theorem rchanges_any (k : Int) (w : World) : Calls Tryz.prog 48 #[.int .i64 k] w fun e w' => e = .returned (.bool (chg k)) ∧ w' = w := by
  by_cases h1 : k = 1
  · subst h1
    go_enter Tryz.func48, Tryz.ntmps48
    go_wp2
    go_ret
    exact ⟨rfl, rfl⟩
  by_cases h2 : k = 2
  · subst h2
    go_enter Tryz.func48, Tryz.ntmps48
    go_wp2
    go_ret
    exact ⟨rfl, rfl⟩
  by_cases h3 : k = 3
  · subst h3
    go_enter Tryz.func48, Tryz.ntmps48
    go_wp2
    go_ret
    exact ⟨rfl, rfl⟩
  by_cases h4 : k = 4
  · subst h4
    go_enter Tryz.func48, Tryz.ntmps48
    go_wp2
    go_ret
    exact ⟨rfl, rfl⟩
  by_cases h7 : k = 7
  · subst h7
    go_enter Tryz.func48, Tryz.ntmps48
    go_wp2
    go_ret
    exact ⟨rfl, rfl⟩
  rw [show chg k = false from decide_eq_false (by omega)]
  have a1 : (k == 1) = false := by simpa using h1
  have b1 : decide (k = 1) = false := by simpa using h1
  have a2 : (k == 2) = false := by simpa using h2
  have b2 : decide (k = 2) = false := by simpa using h2
  have a3 : (k == 3) = false := by simpa using h3
  have b3 : decide (k = 3) = false := by simpa using h3
  have a4 : (k == 4) = false := by simpa using h4
  have b4 : decide (k = 4) = false := by simpa using h4
  have a7 : (k == 7) = false := by simpa using h7
  have b7 : decide (k = 7) = false := by simpa using h7
  go_enter Tryz.func48, Tryz.ntmps48
  go_wp2
  go_ret
  exact ⟨rfl, rfl⟩
end Go.Proofs.YtjfhilignbeboaaGreatDoor.Rs
/- Replies as bytes: numbers alone, without the program. -/
namespace Go.Proofs.YtjfhilignbeboaaGreatDoor.Rt
/-- A reply: tag, kind, error, id, seat, until, count. -/
structure Ry where
  t : Int
  k : Int
  e : Int
  i : Int
  s : Int
  u : Int
  c : Int
/-- Its numbers are such. -/
structure Ry.Ok (q : Ry) : Prop where
  t0 : 0 ≤ q.t
  t1 : q.t < 4294967296
  k0 : -9223372036854775808 ≤ q.k
  k1 : q.k ≤ 9223372036854775807
  e0 : -9223372036854775808 ≤ q.e
  e1 : q.e ≤ 9223372036854775807
  i0 : 0 ≤ q.i
  i1 : q.i < 4294967296
  s0 : -9223372036854775808 ≤ q.s
  s1 : q.s ≤ 9223372036854775807
  u0 : -9223372036854775808 ≤ q.u
  u1 : q.u ≤ 9223372036854775807
  c0 : -9223372036854775808 ≤ q.c
  c1 : q.c ≤ 9223372036854775807
/-- What a reply of a kind and an error has. -/
def hI (k e : Int) : Bool := decide (e = 0 ∧ (k = 1 ∨ k = 6))
def hS (k e : Int) : Bool := decide (e = 0 ∧ (k = 4 ∨ k = 5))
def hU (k e : Int) : Bool := decide (e = 0 ∧ (k = 1 ∨ k = 5 ∨ k = 6 ∨ k = 7))
def hC (k e : Int) : Bool := decide (e = 0 ∧ (k = 8 ∨ k = 9 ∨ k = 10))
/-- A number in its place. -/
def inP (b : Bool) (n m : Int) : Bool := if b then decide (0 ≤ n ∧ n ≤ m) else decide (n = 0)
/-- It may be as a reply of a kind. -/
def Ry.kindB (q : Ry) : Bool := decide (1 ≤ q.k ∧ q.k ≤ 10) && (decide (0 ≤ q.e ∧ q.e ≤ 65535) && (inP (hI q.k q.e) q.i 4294967295 && (inP (hS q.k q.e) q.s 65535 && (inP (hU q.k q.e) q.u 9223372036854775807 && inP (hC q.k q.e) q.c 65535))))
/-- It is what no request is answered with. -/
def Ry.noneB (q : Ry) : Bool := decide (q.t = 0 ∧ q.k = 0 ∧ q.e = 200 ∧ q.i = 0 ∧ q.s = 0 ∧ q.u = 0 ∧ q.c = 0)
def Ry.mayB (q : Ry) : Bool := q.kindB || q.noneB
def Ry.May (q : Ry) : Prop := q.mayB = true
instance (q : Ry) : Decidable q.May := by unfold Ry.May; exact inferInstance
/-- What Check answers. -/
def chk (q : Ry) : Int := if q.May then 0 else 210
def zRy : Ry := ⟨0, 0, 0, 0, 0, 0, 0⟩
theorem inP_true {b : Bool} {n m : Int} (hm : 0 ≤ m) (h : inP b n m = true) : 0 ≤ n ∧ n ≤ m ∧ (b = false → n = 0) := by
  unfold inP at h
  cases b with
  | false => rw [if_neg (by decide)] at h; have := of_decide_eq_true h; subst this; exact ⟨by omega, hm, fun _ => rfl⟩
  | true => rw [if_pos rfl] at h; have := of_decide_eq_true h; exact ⟨this.1, this.2, fun e => by cases e⟩
theorem has_e {k e : Int} (h : e ≠ 0) : hI k e = false ∧ hS k e = false ∧ hU k e = false ∧ hC k e = false := by
  refine ⟨decide_eq_false (fun x => h x.1), decide_eq_false (fun x => h x.1), decide_eq_false (fun x => h x.1), decide_eq_false (fun x => h x.1)⟩
/-- What may be, in words. -/
theorem may_iff {q : Ry} (ho : q.Ok) : q.May ↔ ((1 ≤ q.k ∧ q.k ≤ 10) ∨ (q.k = 0 ∧ q.t = 0 ∧ q.e = 200)) ∧ (0 ≤ q.e ∧ q.e ≤ 65535) ∧ (0 ≤ q.s ∧ q.s ≤ 65535) ∧ 0 ≤ q.u ∧ (0 ≤ q.c ∧ q.c ≤ 65535) ∧ (hI q.k q.e = false → q.i = 0) ∧ (hS q.k q.e = false → q.s = 0) ∧ (hU q.k q.e = false → q.u = 0) ∧ (hC q.k q.e = false → q.c = 0) := by
  constructor
  · intro h
    unfold Ry.May Ry.mayB at h
    rw [Bool.or_eq_true] at h
    rcases h with h | h
    · unfold Ry.kindB at h
      simp only [Bool.and_eq_true, decide_eq_true_eq] at h
      obtain ⟨a, b, hi, hs, hu, hc⟩ := h
      have hi := inP_true (by decide) hi
      have hs := inP_true (by decide) hs
      have hu := inP_true (by decide) hu
      have hc := inP_true (by decide) hc
      exact ⟨Or.inl a, b, ⟨hs.1, hs.2.1⟩, hu.1, ⟨hc.1, hc.2.1⟩, hi.2.2, hs.2.2, hu.2.2, hc.2.2⟩
    · obtain ⟨h1, h2, h3, h4, h5, h6, h7⟩ := of_decide_eq_true h
      exact ⟨Or.inr ⟨h2, h1, h3⟩, by omega, by omega, by omega, by omega, fun _ => h4, fun _ => h5, fun _ => h6, fun _ => h7⟩
  · rintro ⟨a, b, c, d, f, hi, hs, hu, hc⟩
    have i0 := ho.i0
    have i1 := ho.i1
    have u1 := ho.u1
    unfold Ry.May Ry.mayB
    rw [Bool.or_eq_true]
    rcases a with a | ⟨a1, a2, a3⟩
    · left
      unfold Ry.kindB
      simp only [Bool.and_eq_true, decide_eq_true_eq]
      refine ⟨a, b, ?_, ?_, ?_, ?_⟩
      · unfold inP
        cases hh : hI q.k q.e with
        | false => rw [if_neg (by decide)]; exact decide_eq_true (hi hh)
        | true => rw [if_pos rfl]; exact decide_eq_true ⟨i0, by omega⟩
      · unfold inP
        cases hh : hS q.k q.e with
        | false => rw [if_neg (by decide)]; exact decide_eq_true (hs hh)
        | true => rw [if_pos rfl]; exact decide_eq_true c
      · unfold inP
        cases hh : hU q.k q.e with
        | false => rw [if_neg (by decide)]; exact decide_eq_true (hu hh)
        | true => rw [if_pos rfl]; exact decide_eq_true ⟨d, u1⟩
      · unfold inP
        cases hh : hC q.k q.e with
        | false => rw [if_neg (by decide)]; exact decide_eq_true (hc hh)
        | true => rw [if_pos rfl]; exact decide_eq_true f
    · right
      have z := has_e (k := q.k) (e := q.e) (by omega)
      exact decide_eq_true ⟨a2, a1, a3, hi z.1, hs z.2.1, hu z.2.2.1, hc z.2.2.2⟩
/-- What may be has numbers that their bytes hold. -/
theorem may_nums {q : Ry} (ho : q.Ok) (h : q.May) : (0 ≤ q.k ∧ q.k ≤ 10) ∧ (0 ≤ q.e ∧ q.e ≤ 65535) ∧ (hI q.k q.e = false → q.i = 0) ∧ (0 ≤ q.s ∧ q.s ≤ 65535 ∧ (hS q.k q.e = false → q.s = 0)) ∧ (0 ≤ q.u ∧ q.u ≤ 9223372036854775807 ∧ (hU q.k q.e = false → q.u = 0)) ∧ (0 ≤ q.c ∧ q.c ≤ 65535 ∧ (hC q.k q.e = false → q.c = 0)) := by
  obtain ⟨a, b, c, d, f, hi, hs, hu, hc⟩ := (may_iff ho).1 h
  have u1 := ho.u1
  exact ⟨by omega, b, hi, ⟨c.1, c.2, hs⟩, ⟨d, u1, hu⟩, f.1, f.2, hc⟩
end Go.Proofs.YtjfhilignbeboaaGreatDoor.Rt
/- replies: which fields a reply has, what may stand in one. -/
namespace Go.Proofs.YtjfhilignbeboaaGreatDoor.Rt
open Go.RowKit
attribute [local go_sem ↓] Go.wp_at_zero Go.wp_at_succ
def ryV (q : Ry) : Value := .agg #[.int .u32 q.t, .int .i64 q.k, .int .i64 q.e, .int .u32 q.i, .int .i64 q.s, .int .i64 q.u, .int .i64 q.c]
def ryC (q : Ry) : List Value := [Value.int .u32 q.t, .int .i64 q.k, .int .i64 q.e, .int .u32 q.i, .int .i64 q.s, .int .i64 q.u, .int .i64 q.c]
theorem box7 {w : World} {g : Nat} {t : TypeId} {a b c d e f h : Value} (hh : w.heap[g]? = some (.cells [a, b, c, d, e, f, h].toArray t (0, 0))) : w.cell? ⟨g, 0, none⟩ = some a ∧ w.cell? ⟨g, 1, none⟩ = some b ∧ w.cell? ⟨g, 2, none⟩ = some c ∧ w.cell? ⟨g, 3, none⟩ = some d ∧ w.cell? ⟨g, 4, none⟩ = some e ∧ w.cell? ⟨g, 5, none⟩ = some f ∧ w.cell? ⟨g, 6, none⟩ = some h :=
  ⟨cell_row hh 0, cell_row hh 1, cell_row hh 2, cell_row hh 3, cell_row hh 4, cell_row hh 5, cell_row hh 6⟩
theorem box_new {w w' : World} {g : Nat} {o : Obj} (h : w.heap[g]? = some o) (hg : w.grownBy w' none) : w'.heap[g]? = some o := (hg.block _ (row_lt h) (by simp)).trans h
/-- The table of fields. -/
def tabN : List Int := [0, 5, 0, 0, 2, 6, 5, 4, 8, 8, 8]
def Tab (w : World) : Prop := ∀ j, j < 11 → w.cell? ⟨1, j, none⟩ = some (.int .u8 (tabN.getD j 0))
theorem Tab.lt {w : World} (h : Tab w) : 0 < w.heap.size := by
  have := h 0 (by decide)
  cases hb : w.heap[1]? with
  | none => simp [World.cell?, hb] at this
  | some o => exact Nat.lt_of_le_of_lt (Nat.zero_le _) (row_lt hb)
theorem Tab.grown {w w' : World} {row : Option Nat} (h : Tab w) (hg : w.grownBy w' row) (hr : row ≠ some 1) : Tab w' := fun j hj => hg.cell (h j hj) (fun e => hr e.symm)
theorem Tab.new {w w' : World} (h : Tab w) (hg : w.grownBy w' none) : Tab w' := h.grown hg (by simp)
/-- Which fields there are, as bits. -/
def fv (k e : Int) : Int := if e = 0 then (if k = 1 ∨ k = 6 then 5 else if k = 4 then 2 else if k = 5 then 6 else if k = 7 then 4 else if k = 8 ∨ k = 9 ∨ k = 10 then 8 else 0) else 0
def hasT : List (Int × Int × Bool) := [(0, 1, false), (0, 2, false), (0, 4, false), (0, 8, false), (5, 1, true), (5, 2, false), (5, 4, true), (5, 8, false), (2, 1, false), (2, 2, true), (2, 4, false), (2, 8, false), (6, 1, false), (6, 2, true), (6, 4, true), (6, 8, false), (4, 1, false), (4, 2, false), (4, 4, true), (4, 8, false), (8, 1, false), (8, 2, false), (8, 4, false), (8, 8, true)]
theorem fv_cases (k e : Int) : (fv k e = 0 ∧ hI k e = false ∧ hS k e = false ∧ hU k e = false ∧ hC k e = false) ∨ (fv k e = 5 ∧ hI k e = true ∧ hS k e = false ∧ hU k e = true ∧ hC k e = false) ∨ (fv k e = 2 ∧ hI k e = false ∧ hS k e = true ∧ hU k e = false ∧ hC k e = false) ∨ (fv k e = 6 ∧ hI k e = false ∧ hS k e = true ∧ hU k e = true ∧ hC k e = false) ∨ (fv k e = 4 ∧ hI k e = false ∧ hS k e = false ∧ hU k e = true ∧ hC k e = false) ∨ (fv k e = 8 ∧ hI k e = false ∧ hS k e = false ∧ hU k e = false ∧ hC k e = true) := by
  by_cases he : e = 0
  · subst he
    unfold fv
    rw [if_pos rfl]
    by_cases h1 : k = 1 ∨ k = 6
    · rw [if_pos h1]; exact Or.inr (Or.inl ⟨rfl, decide_eq_true (by omega), decide_eq_false (by omega), decide_eq_true (by omega), decide_eq_false (by omega)⟩)
    rw [if_neg h1]
    by_cases h2 : k = 4
    · rw [if_pos h2]; exact Or.inr (Or.inr (Or.inl ⟨rfl, decide_eq_false (by omega), decide_eq_true (by omega), decide_eq_false (by omega), decide_eq_false (by omega)⟩))
    rw [if_neg h2]
    by_cases h3 : k = 5
    · rw [if_pos h3]; exact Or.inr (Or.inr (Or.inr (Or.inl ⟨rfl, decide_eq_false (by omega), decide_eq_true (by omega), decide_eq_true (by omega), decide_eq_false (by omega)⟩)))
    rw [if_neg h3]
    by_cases h4 : k = 7
    · rw [if_pos h4]; exact Or.inr (Or.inr (Or.inr (Or.inr (Or.inl ⟨rfl, decide_eq_false (by omega), decide_eq_false (by omega), decide_eq_true (by omega), decide_eq_false (by omega)⟩))))
    rw [if_neg h4]
    by_cases h5 : k = 8 ∨ k = 9 ∨ k = 10
    · rw [if_pos h5]; exact Or.inr (Or.inr (Or.inr (Or.inr (Or.inr ⟨rfl, decide_eq_false (by omega), decide_eq_false (by omega), decide_eq_false (by omega), decide_eq_true (by omega)⟩))))
    rw [if_neg h5]
    exact Or.inl ⟨rfl, decide_eq_false (by omega), decide_eq_false (by omega), decide_eq_false (by omega), decide_eq_false (by omega)⟩
  · obtain ⟨a, b, c, d⟩ := has_e (k := k) he
    exact Or.inl ⟨if_neg he, a, b, c, d⟩
theorem fv_has (k e : Int) : (fv k e, 1, hI k e) ∈ hasT ∧ (fv k e, 2, hS k e) ∈ hasT ∧ (fv k e, 4, hU k e) ∈ hasT ∧ (fv k e, 8, hC k e) ∈ hasT := by
  rcases fv_cases k e with ⟨a, b, c, d, f⟩ | ⟨a, b, c, d, f⟩ | ⟨a, b, c, d, f⟩ | ⟨a, b, c, d, f⟩ | ⟨a, b, c, d, f⟩ | ⟨a, b, c, d, f⟩ <;> (rw [a, b, c, d, f]; exact ⟨by decide, by decide, by decide, by decide⟩)
theorem isKind_any (k : Int) (w : World) : Calls Tryz.prog 110 #[.int .i64 k] w fun e w' => e = .returned (.bool (decide (1 ≤ k ∧ k ≤ 10))) ∧ w' = w := by
  by_cases h1 : 1 ≤ k
  · by_cases h2 : k ≤ 10
    · rw [decide_eq_true (show 1 ≤ k ∧ k ≤ 10 from ⟨h1, h2⟩)]
      go_enter Tryz.func110, Tryz.ntmps110
      go_wp2
      go_ret
      exact ⟨rfl, rfl⟩
    · rw [decide_eq_false (show ¬ (1 ≤ k ∧ k ≤ 10) from fun h => h2 h.2)]
      go_enter Tryz.func110, Tryz.ntmps110
      go_wp2
      go_ret
      exact ⟨rfl, rfl⟩
  · rw [decide_eq_false (show ¬ (1 ≤ k ∧ k ≤ 10) from fun h => h1 h.1)]
    go_enter Tryz.func110, Tryz.ntmps110
    go_wp2
    go_ret
    exact ⟨rfl, rfl⟩
theorem has_any (f one : Int) (r : Bool) (h : (f, one, r) ∈ hasT) (w : World) : Calls Tryz.prog 155 #[.int .u8 f, .int .u8 one] w fun e w' => e = .returned (.bool r) ∧ w' = w := by
  simp only [hasT, List.mem_cons, List.not_mem_nil, or_false, Prod.mk.injEq] at h
  rcases h with ⟨rfl, rfl, rfl⟩ | ⟨rfl, rfl, rfl⟩ | ⟨rfl, rfl, rfl⟩ | ⟨rfl, rfl, rfl⟩ | ⟨rfl, rfl, rfl⟩ | ⟨rfl, rfl, rfl⟩ | ⟨rfl, rfl, rfl⟩ | ⟨rfl, rfl, rfl⟩ | ⟨rfl, rfl, rfl⟩ | ⟨rfl, rfl, rfl⟩ | ⟨rfl, rfl, rfl⟩ | ⟨rfl, rfl, rfl⟩ | ⟨rfl, rfl, rfl⟩ | ⟨rfl, rfl, rfl⟩ | ⟨rfl, rfl, rfl⟩ | ⟨rfl, rfl, rfl⟩ | ⟨rfl, rfl, rfl⟩ | ⟨rfl, rfl, rfl⟩ | ⟨rfl, rfl, rfl⟩ | ⟨rfl, rfl, rfl⟩ | ⟨rfl, rfl, rfl⟩ | ⟨rfl, rfl, rfl⟩ | ⟨rfl, rfl, rfl⟩ | ⟨rfl, rfl, rfl⟩
  all_goals
    go_enter Tryz.func155, Tryz.ntmps155
    go_wp2
    go_ret
    exact ⟨rfl, rfl⟩
theorem allow_any (f one n m : Int) (r : Bool) (h : (f, one, r) ∈ hasT) (w : World) : Calls Tryz.prog 111 #[.int .u8 f, .int .u8 one, .int .i64 n, .int .i64 m] w fun e w' => e = .returned (.bool (inP r n m)) ∧ w' = w := by
  have qh := has_any f one r h w
  clear h
  cases r with
  | false =>
    rw [show inP false n m = decide (n = 0) from rfl]
    by_cases h0 : n = 0
    · subst h0
      go_enter Tryz.func111, Tryz.ntmps111
      go_wp2_with fail
      refine qh.mono ?_
      clear qh
      rintro e w2 ⟨rfl, rfl⟩
      go_wp2
      go_ret
      exact ⟨rfl, rfl⟩
    · rw [decide_eq_false h0]
      have h1 : (n == 0) = false := by simpa using h0
      have h2 : decide (n = 0) = false := by simpa using h0
      go_enter Tryz.func111, Tryz.ntmps111
      go_wp2_with fail
      refine qh.mono ?_
      clear qh
      rintro e w2 ⟨rfl, rfl⟩
      go_wp2
      go_ret
      exact ⟨rfl, rfl⟩
  | true =>
    rw [show inP true n m = decide (0 ≤ n ∧ n ≤ m) from rfl]
    by_cases h1 : 0 ≤ n
    · by_cases h2 : n ≤ m
      · rw [decide_eq_true (show 0 ≤ n ∧ n ≤ m from ⟨h1, h2⟩)]
        go_enter Tryz.func111, Tryz.ntmps111
        go_wp2_with fail
        refine qh.mono ?_
        clear qh
        rintro e w2 ⟨rfl, rfl⟩
        go_wp2
        go_ret
        exact ⟨rfl, rfl⟩
      · rw [decide_eq_false (show ¬ (0 ≤ n ∧ n ≤ m) from fun h => h2 h.2)]
        have h3 : decide (n ≤ m) = false := decide_eq_false h2
        go_enter Tryz.func111, Tryz.ntmps111
        go_wp2_with fail
        refine qh.mono ?_
        clear qh
        rintro e w2 ⟨rfl, rfl⟩
        go_wp2
        go_ret
        exact ⟨rfl, rfl⟩
    · rw [decide_eq_false (show ¬ (0 ≤ n ∧ n ≤ m) from fun h => h1 h.1)]
      go_enter Tryz.func111, Tryz.ntmps111
      go_wp2_with fail
      refine qh.mono ?_
      clear qh
      rintro e w2 ⟨rfl, rfl⟩
      go_wp2
      go_ret
      exact ⟨rfl, rfl⟩
/-- A reply in a box of the call's own. -/
structure CkS (w wr : World) (q : Ry) : Prop where
  box : wr.heap[w.heap.size]? = some (.cells [Value.int .u32 q.t, .int .i64 q.k, .int .i64 q.e, .int .u32 q.i, .int .i64 q.s, .int .i64 q.u, .int .i64 q.c].toArray 31 (0, 0))
  gr : w.grownBy wr none
theorem CkS.then {w wr wr' : World} {q : Ry} (h : CkS w wr q) (hg : wr.grownBy wr' none) : CkS w wr' q := ⟨(hg.block _ (row_lt h.box) (by simp)).trans h.box, grown_trans h.gr hg⟩
theorem CkS.begin (w : World) (q : Ry) : CkS w (w.alloc (.cells #[.int .u32 q.t, .int .i64 q.k, .int .i64 q.e, .int .u32 q.i, .int .i64 q.s, .int .i64 q.u, .int .i64 q.c] 31)) q := ⟨heap_alloc_new w _, World.grownBy_alloc w _ none⟩
theorem fi1 (t i s u c : Int) (w : World) (hT : Tab w) : Calls Tryz.prog 109 #[.agg #[.int .u32 t, .int .i64 1, .int .i64 0, .int .u32 i, .int .i64 s, .int .i64 u, .int .i64 c]] w fun r w' => r = .returned (.int .u8 5) ∧ w.grownBy w' none := by
  have S0 := hide (CkS.begin w ⟨t, 1, 0, i, s, u, c⟩)
  obtain ⟨c0, c1, c2, c3, c4, c5, c6⟩ := box7 S0.out.box
  have qk := isKind_any 1 (w.alloc (.cells #[.int .u32 t, .int .i64 1, .int .i64 0, .int .u32 i, .int .i64 s, .int .i64 u, .int .i64 c] 31))
  rw [show decide ((1 : Int) ≤ 1 ∧ (1 : Int) ≤ 10) = true from rfl] at qk
  have d0 : _ = some (Value.int .u8 5) := hT.new S0.out.gr 1 (by decide)
  clear hT
  go_enter Tryz.func109, Tryz.ntmps109
  go_wp2_with fail
  generalize w.alloc (.cells #[.int .u32 t, .int .i64 1, .int .i64 0, .int .u32 i, .int .i64 s, .int .i64 u, .int .i64 c] 31) = w1 at *
  refine qk.mono ?_
  clear qk
  rintro r wx ⟨rfl, hw⟩
  obtain rfl := hw.symm
  clear hw
  go_wp2
  go_ret
  exact ⟨rfl, S0.out.gr⟩
theorem fi2 (t i s u c : Int) (w : World) (hT : Tab w) : Calls Tryz.prog 109 #[.agg #[.int .u32 t, .int .i64 2, .int .i64 0, .int .u32 i, .int .i64 s, .int .i64 u, .int .i64 c]] w fun r w' => r = .returned (.int .u8 0) ∧ w.grownBy w' none := by
  have S0 := hide (CkS.begin w ⟨t, 2, 0, i, s, u, c⟩)
  obtain ⟨c0, c1, c2, c3, c4, c5, c6⟩ := box7 S0.out.box
  have qk := isKind_any 2 (w.alloc (.cells #[.int .u32 t, .int .i64 2, .int .i64 0, .int .u32 i, .int .i64 s, .int .i64 u, .int .i64 c] 31))
  rw [show decide ((1 : Int) ≤ 2 ∧ (2 : Int) ≤ 10) = true from rfl] at qk
  have d0 : _ = some (Value.int .u8 0) := hT.new S0.out.gr 2 (by decide)
  clear hT
  go_enter Tryz.func109, Tryz.ntmps109
  go_wp2_with fail
  generalize w.alloc (.cells #[.int .u32 t, .int .i64 2, .int .i64 0, .int .u32 i, .int .i64 s, .int .i64 u, .int .i64 c] 31) = w1 at *
  refine qk.mono ?_
  clear qk
  rintro r wx ⟨rfl, hw⟩
  obtain rfl := hw.symm
  clear hw
  go_wp2
  go_ret
  exact ⟨rfl, S0.out.gr⟩
theorem fi3 (t i s u c : Int) (w : World) (hT : Tab w) : Calls Tryz.prog 109 #[.agg #[.int .u32 t, .int .i64 3, .int .i64 0, .int .u32 i, .int .i64 s, .int .i64 u, .int .i64 c]] w fun r w' => r = .returned (.int .u8 0) ∧ w.grownBy w' none := by
  have S0 := hide (CkS.begin w ⟨t, 3, 0, i, s, u, c⟩)
  obtain ⟨c0, c1, c2, c3, c4, c5, c6⟩ := box7 S0.out.box
  have qk := isKind_any 3 (w.alloc (.cells #[.int .u32 t, .int .i64 3, .int .i64 0, .int .u32 i, .int .i64 s, .int .i64 u, .int .i64 c] 31))
  rw [show decide ((1 : Int) ≤ 3 ∧ (3 : Int) ≤ 10) = true from rfl] at qk
  have d0 : _ = some (Value.int .u8 0) := hT.new S0.out.gr 3 (by decide)
  clear hT
  go_enter Tryz.func109, Tryz.ntmps109
  go_wp2_with fail
  generalize w.alloc (.cells #[.int .u32 t, .int .i64 3, .int .i64 0, .int .u32 i, .int .i64 s, .int .i64 u, .int .i64 c] 31) = w1 at *
  refine qk.mono ?_
  clear qk
  rintro r wx ⟨rfl, hw⟩
  obtain rfl := hw.symm
  clear hw
  go_wp2
  go_ret
  exact ⟨rfl, S0.out.gr⟩
theorem fi4 (t i s u c : Int) (w : World) (hT : Tab w) : Calls Tryz.prog 109 #[.agg #[.int .u32 t, .int .i64 4, .int .i64 0, .int .u32 i, .int .i64 s, .int .i64 u, .int .i64 c]] w fun r w' => r = .returned (.int .u8 2) ∧ w.grownBy w' none := by
  have S0 := hide (CkS.begin w ⟨t, 4, 0, i, s, u, c⟩)
  obtain ⟨c0, c1, c2, c3, c4, c5, c6⟩ := box7 S0.out.box
  have qk := isKind_any 4 (w.alloc (.cells #[.int .u32 t, .int .i64 4, .int .i64 0, .int .u32 i, .int .i64 s, .int .i64 u, .int .i64 c] 31))
  rw [show decide ((1 : Int) ≤ 4 ∧ (4 : Int) ≤ 10) = true from rfl] at qk
  have d0 : _ = some (Value.int .u8 2) := hT.new S0.out.gr 4 (by decide)
  clear hT
  go_enter Tryz.func109, Tryz.ntmps109
  go_wp2_with fail
  generalize w.alloc (.cells #[.int .u32 t, .int .i64 4, .int .i64 0, .int .u32 i, .int .i64 s, .int .i64 u, .int .i64 c] 31) = w1 at *
  refine qk.mono ?_
  clear qk
  rintro r wx ⟨rfl, hw⟩
  obtain rfl := hw.symm
  clear hw
  go_wp2
  go_ret
  exact ⟨rfl, S0.out.gr⟩
theorem fi5 (t i s u c : Int) (w : World) (hT : Tab w) : Calls Tryz.prog 109 #[.agg #[.int .u32 t, .int .i64 5, .int .i64 0, .int .u32 i, .int .i64 s, .int .i64 u, .int .i64 c]] w fun r w' => r = .returned (.int .u8 6) ∧ w.grownBy w' none := by
  have S0 := hide (CkS.begin w ⟨t, 5, 0, i, s, u, c⟩)
  obtain ⟨c0, c1, c2, c3, c4, c5, c6⟩ := box7 S0.out.box
  have qk := isKind_any 5 (w.alloc (.cells #[.int .u32 t, .int .i64 5, .int .i64 0, .int .u32 i, .int .i64 s, .int .i64 u, .int .i64 c] 31))
  rw [show decide ((1 : Int) ≤ 5 ∧ (5 : Int) ≤ 10) = true from rfl] at qk
  have d0 : _ = some (Value.int .u8 6) := hT.new S0.out.gr 5 (by decide)
  clear hT
  go_enter Tryz.func109, Tryz.ntmps109
  go_wp2_with fail
  generalize w.alloc (.cells #[.int .u32 t, .int .i64 5, .int .i64 0, .int .u32 i, .int .i64 s, .int .i64 u, .int .i64 c] 31) = w1 at *
  refine qk.mono ?_
  clear qk
  rintro r wx ⟨rfl, hw⟩
  obtain rfl := hw.symm
  clear hw
  go_wp2
  go_ret
  exact ⟨rfl, S0.out.gr⟩
theorem fi6 (t i s u c : Int) (w : World) (hT : Tab w) : Calls Tryz.prog 109 #[.agg #[.int .u32 t, .int .i64 6, .int .i64 0, .int .u32 i, .int .i64 s, .int .i64 u, .int .i64 c]] w fun r w' => r = .returned (.int .u8 5) ∧ w.grownBy w' none := by
  have S0 := hide (CkS.begin w ⟨t, 6, 0, i, s, u, c⟩)
  obtain ⟨c0, c1, c2, c3, c4, c5, c6⟩ := box7 S0.out.box
  have qk := isKind_any 6 (w.alloc (.cells #[.int .u32 t, .int .i64 6, .int .i64 0, .int .u32 i, .int .i64 s, .int .i64 u, .int .i64 c] 31))
  rw [show decide ((1 : Int) ≤ 6 ∧ (6 : Int) ≤ 10) = true from rfl] at qk
  have d0 : _ = some (Value.int .u8 5) := hT.new S0.out.gr 6 (by decide)
  clear hT
  go_enter Tryz.func109, Tryz.ntmps109
  go_wp2_with fail
  generalize w.alloc (.cells #[.int .u32 t, .int .i64 6, .int .i64 0, .int .u32 i, .int .i64 s, .int .i64 u, .int .i64 c] 31) = w1 at *
  refine qk.mono ?_
  clear qk
  rintro r wx ⟨rfl, hw⟩
  obtain rfl := hw.symm
  clear hw
  go_wp2
  go_ret
  exact ⟨rfl, S0.out.gr⟩
theorem fi7 (t i s u c : Int) (w : World) (hT : Tab w) : Calls Tryz.prog 109 #[.agg #[.int .u32 t, .int .i64 7, .int .i64 0, .int .u32 i, .int .i64 s, .int .i64 u, .int .i64 c]] w fun r w' => r = .returned (.int .u8 4) ∧ w.grownBy w' none := by
  have S0 := hide (CkS.begin w ⟨t, 7, 0, i, s, u, c⟩)
  obtain ⟨c0, c1, c2, c3, c4, c5, c6⟩ := box7 S0.out.box
  have qk := isKind_any 7 (w.alloc (.cells #[.int .u32 t, .int .i64 7, .int .i64 0, .int .u32 i, .int .i64 s, .int .i64 u, .int .i64 c] 31))
  rw [show decide ((1 : Int) ≤ 7 ∧ (7 : Int) ≤ 10) = true from rfl] at qk
  have d0 : _ = some (Value.int .u8 4) := hT.new S0.out.gr 7 (by decide)
  clear hT
  go_enter Tryz.func109, Tryz.ntmps109
  go_wp2_with fail
  generalize w.alloc (.cells #[.int .u32 t, .int .i64 7, .int .i64 0, .int .u32 i, .int .i64 s, .int .i64 u, .int .i64 c] 31) = w1 at *
  refine qk.mono ?_
  clear qk
  rintro r wx ⟨rfl, hw⟩
  obtain rfl := hw.symm
  clear hw
  go_wp2
  go_ret
  exact ⟨rfl, S0.out.gr⟩
theorem fi8 (t i s u c : Int) (w : World) (hT : Tab w) : Calls Tryz.prog 109 #[.agg #[.int .u32 t, .int .i64 8, .int .i64 0, .int .u32 i, .int .i64 s, .int .i64 u, .int .i64 c]] w fun r w' => r = .returned (.int .u8 8) ∧ w.grownBy w' none := by
  have S0 := hide (CkS.begin w ⟨t, 8, 0, i, s, u, c⟩)
  obtain ⟨c0, c1, c2, c3, c4, c5, c6⟩ := box7 S0.out.box
  have qk := isKind_any 8 (w.alloc (.cells #[.int .u32 t, .int .i64 8, .int .i64 0, .int .u32 i, .int .i64 s, .int .i64 u, .int .i64 c] 31))
  rw [show decide ((1 : Int) ≤ 8 ∧ (8 : Int) ≤ 10) = true from rfl] at qk
  have d0 : _ = some (Value.int .u8 8) := hT.new S0.out.gr 8 (by decide)
  clear hT
  go_enter Tryz.func109, Tryz.ntmps109
  go_wp2_with fail
  generalize w.alloc (.cells #[.int .u32 t, .int .i64 8, .int .i64 0, .int .u32 i, .int .i64 s, .int .i64 u, .int .i64 c] 31) = w1 at *
  refine qk.mono ?_
  clear qk
  rintro r wx ⟨rfl, hw⟩
  obtain rfl := hw.symm
  clear hw
  go_wp2
  go_ret
  exact ⟨rfl, S0.out.gr⟩
theorem fi9 (t i s u c : Int) (w : World) (hT : Tab w) : Calls Tryz.prog 109 #[.agg #[.int .u32 t, .int .i64 9, .int .i64 0, .int .u32 i, .int .i64 s, .int .i64 u, .int .i64 c]] w fun r w' => r = .returned (.int .u8 8) ∧ w.grownBy w' none := by
  have S0 := hide (CkS.begin w ⟨t, 9, 0, i, s, u, c⟩)
  obtain ⟨c0, c1, c2, c3, c4, c5, c6⟩ := box7 S0.out.box
  have qk := isKind_any 9 (w.alloc (.cells #[.int .u32 t, .int .i64 9, .int .i64 0, .int .u32 i, .int .i64 s, .int .i64 u, .int .i64 c] 31))
  rw [show decide ((1 : Int) ≤ 9 ∧ (9 : Int) ≤ 10) = true from rfl] at qk
  have d0 : _ = some (Value.int .u8 8) := hT.new S0.out.gr 9 (by decide)
  clear hT
  go_enter Tryz.func109, Tryz.ntmps109
  go_wp2_with fail
  generalize w.alloc (.cells #[.int .u32 t, .int .i64 9, .int .i64 0, .int .u32 i, .int .i64 s, .int .i64 u, .int .i64 c] 31) = w1 at *
  refine qk.mono ?_
  clear qk
  rintro r wx ⟨rfl, hw⟩
  obtain rfl := hw.symm
  clear hw
  go_wp2
  go_ret
  exact ⟨rfl, S0.out.gr⟩
theorem fi10 (t i s u c : Int) (w : World) (hT : Tab w) : Calls Tryz.prog 109 #[.agg #[.int .u32 t, .int .i64 10, .int .i64 0, .int .u32 i, .int .i64 s, .int .i64 u, .int .i64 c]] w fun r w' => r = .returned (.int .u8 8) ∧ w.grownBy w' none := by
  have S0 := hide (CkS.begin w ⟨t, 10, 0, i, s, u, c⟩)
  obtain ⟨c0, c1, c2, c3, c4, c5, c6⟩ := box7 S0.out.box
  have qk := isKind_any 10 (w.alloc (.cells #[.int .u32 t, .int .i64 10, .int .i64 0, .int .u32 i, .int .i64 s, .int .i64 u, .int .i64 c] 31))
  rw [show decide ((1 : Int) ≤ 10 ∧ (10 : Int) ≤ 10) = true from rfl] at qk
  have d0 : _ = some (Value.int .u8 8) := hT.new S0.out.gr 10 (by decide)
  clear hT
  go_enter Tryz.func109, Tryz.ntmps109
  go_wp2_with fail
  generalize w.alloc (.cells #[.int .u32 t, .int .i64 10, .int .i64 0, .int .u32 i, .int .i64 s, .int .i64 u, .int .i64 c] 31) = w1 at *
  refine qk.mono ?_
  clear qk
  rintro r wx ⟨rfl, hw⟩
  obtain rfl := hw.symm
  clear hw
  go_wp2
  go_ret
  exact ⟨rfl, S0.out.gr⟩
theorem fiE (t k e i s u c : Int) (w : World) (hk : 1 ≤ k ∧ k ≤ 10) (he : e ≠ 0) : Calls Tryz.prog 109 #[.agg #[.int .u32 t, .int .i64 k, .int .i64 e, .int .u32 i, .int .i64 s, .int .i64 u, .int .i64 c]] w fun r w' => r = .returned (.int .u8 0) ∧ w.grownBy w' none := by
  have S0 := hide (CkS.begin w ⟨t, k, e, i, s, u, c⟩)
  obtain ⟨c0, c1, c2, c3, c4, c5, c6⟩ := box7 S0.out.box
  have qk := isKind_any k (w.alloc (.cells #[.int .u32 t, .int .i64 k, .int .i64 e, .int .u32 i, .int .i64 s, .int .i64 u, .int .i64 c] 31))
  rw [decide_eq_true hk] at qk
  have e1 : (e == 0) = false := by simpa using he
  have e2 : (e != 0) = true := by simpa using he
  have e3 : decide (e = 0) = false := by simpa using he
  clear he hk
  go_enter Tryz.func109, Tryz.ntmps109
  go_wp2_with fail
  generalize w.alloc (.cells #[.int .u32 t, .int .i64 k, .int .i64 e, .int .u32 i, .int .i64 s, .int .i64 u, .int .i64 c] 31) = w1 at *
  refine qk.mono ?_
  clear qk
  rintro r wx ⟨rfl, hw⟩
  obtain rfl := hw.symm
  clear hw
  go_wp2
  go_ret
  exact ⟨rfl, S0.out.gr⟩
theorem fiN (t k e i s u c : Int) (w : World) (hk : ¬ (1 ≤ k ∧ k ≤ 10)) : Calls Tryz.prog 109 #[.agg #[.int .u32 t, .int .i64 k, .int .i64 e, .int .u32 i, .int .i64 s, .int .i64 u, .int .i64 c]] w fun r w' => r = .returned (.int .u8 0) ∧ w.grownBy w' none := by
  have S0 := hide (CkS.begin w ⟨t, k, e, i, s, u, c⟩)
  obtain ⟨c0, c1, c2, c3, c4, c5, c6⟩ := box7 S0.out.box
  have qk := isKind_any k (w.alloc (.cells #[.int .u32 t, .int .i64 k, .int .i64 e, .int .u32 i, .int .i64 s, .int .i64 u, .int .i64 c] 31))
  rw [decide_eq_false hk] at qk
  clear hk
  go_enter Tryz.func109, Tryz.ntmps109
  go_wp2_with fail
  generalize w.alloc (.cells #[.int .u32 t, .int .i64 k, .int .i64 e, .int .u32 i, .int .i64 s, .int .i64 u, .int .i64 c] 31) = w1 at *
  refine qk.mono ?_
  clear qk
  rintro r wx ⟨rfl, hw⟩
  obtain rfl := hw.symm
  clear hw
  go_wp2
  go_ret
  exact ⟨rfl, S0.out.gr⟩
theorem fieldsIn_any (q : Ry) (w : World) (hT : Tab w) : Calls Tryz.prog 109 #[ryV q] w fun r w' => r = .returned (.int .u8 (fv q.k q.e)) ∧ w.grownBy w' none := by
  obtain ⟨t, k, e, i, s, u, c⟩ := q
  unfold ryV
  dsimp only
  by_cases hk : 1 ≤ k ∧ k ≤ 10
  · by_cases he : e = 0
    · subst he
      have hkk : k = 1 ∨ k = 2 ∨ k = 3 ∨ k = 4 ∨ k = 5 ∨ k = 6 ∨ k = 7 ∨ k = 8 ∨ k = 9 ∨ k = 10 := by omega
      rcases hkk with rfl | rfl | rfl | rfl | rfl | rfl | rfl | rfl | rfl | rfl
      · exact fi1 t i s u c w hT
      · exact fi2 t i s u c w hT
      · exact fi3 t i s u c w hT
      · exact fi4 t i s u c w hT
      · exact fi5 t i s u c w hT
      · exact fi6 t i s u c w hT
      · exact fi7 t i s u c w hT
      · exact fi8 t i s u c w hT
      · exact fi9 t i s u c w hT
      · exact fi10 t i s u c w hT
    · rw [show fv k e = 0 from if_neg he]
      exact fiE t k e i s u c w hk he
  · have hf : fv k e = 0 := by
      unfold fv
      by_cases he : e = 0
      · rw [if_pos he, if_neg (by omega), if_neg (by omega), if_neg (by omega), if_neg (by omega), if_neg (by omega)]
      · rw [if_neg he]
    rw [hf]
    exact fiN t k e i s u c w hk
end Go.Proofs.YtjfhilignbeboaaGreatDoor.Rt
namespace Go.Proofs.YtjfhilignbeboaaGreatDoor
/- What a request comes to, by numbers alone. -/
/-- The reply of a refusal; of a record. -/
def rfY (q : Rs.Rq) (e : Int) : Rt.Ry := ⟨q.t, q.k, e, 0, 0, 0, 0⟩
def rpY (q : Rs.Rq) (r : Rc) : Rt.Ry := ⟨q.t, q.k, 0, if q.k = 1 then r.i else 0, if q.k = 4 then r.s else 0, if q.k = 1 then r.u else if q.k = 7 then r.c else 0, 0⟩
/-- The record of a change. -/
def recQ (S : Sb) (q : Rs.Rq) : Rc :=
  if q.k = 1 then ⟨1, (S.n : Int), q.s, S.t + q.u, 0⟩ else if q.k = 2 then ⟨2, q.i, 0, 0, 0⟩ else if q.k = 3 then ⟨3, q.i, 0, 0, 0⟩ else if q.k = 4 then ⟨4, q.i, q.s, 0, 0⟩ else ⟨5, 0, 0, 0, S.t + q.u⟩
def mxT : Int := 1073741824
/-- What a check of the ttl, of the room answers. -/
def ttE (q : Rs.Rq) : Int := if 1 ≤ q.u ∧ q.u ≤ mxT then 0 else 2
def lgE (room k : Int) : Int := if room < 22 + (sz k : Int) then 220 else 0
end Go.Proofs.YtjfhilignbeboaaGreatDoor
namespace Go.Proofs.YtjfhilignbeboaaGreatDoor
/- What a request comes to: the checks. -/
/-- What each check answers. -/
def clE (S : Sb) (q : Rs.Rq) : Int := if mxC < S.t + q.u then 172 else 0
def stE (S : Sb) (q : Rs.Rq) : Int := if q.s < (S.a : Int) then 0 else 140
def frE (S : Sb) (q : Rs.Rq) : Int := if atE S q.s = 0 ∧ ((atX S q.s).i : Int) ≠ q.i then 170 else 0
def rmE (S : Sb) : Int := if S.b ≤ S.L.length ∨ S.n = 4294967295 then 6 else 0
def idE (S : Sb) (q : Rs.Rq) : Int := if (fnd S.L q.i.toNat).isSome then 0 else 171
/-- The first that is not OK. -/
def fstE : List Int → Int
  | [] => 0
  | x :: r => if x = 0 then fstE r else x
theorem fstE_cons_no {x : Int} (h : x ≠ 0) (r : List Int) : fstE (x :: r) = x := by unfold fstE; rw [if_neg h]
theorem fstE_cons_ok (r : List Int) : fstE (0 :: r) = fstE r := by rw [fstE, if_pos rfl]
def chks (S : Sb) (room : Int) (q : Rs.Rq) : List Int :=
  if q.k = 1 then [stE S q, ttE q, clE S q, frE S q, rmE S, lgE room 1]
  else if q.k = 2 then [idE S q, lgE room 2]
  else if q.k = 3 then [idE S q, lgE room 3]
  else if q.k = 4 then [idE S q, stE S q, frE S q, lgE room 4]
  else [ttE q, clE S q, lgE room 5]
def refE (S : Sb) (room : Int) (q : Rs.Rq) : Int := fstE (chks S room q)
/-- What Decide answers: the record, the reply, whether, the error. -/
structure Dc where
  r : Rc
  y : Rt.Ry
  ok : Bool
  e : Int
def isChg (q : Rs.Rq) : Prop := q.May ∧ Rs.chg q.k = true
instance (q : Rs.Rq) : Decidable (isChg q) := by unfold isChg; exact inferInstance
def dec (S : Sb) (room : Int) (q : Rs.Rq) : Dc :=
  if isChg q then (if refE S room q = 0 then ⟨recQ S q, rpY q (recQ S q), true, 0⟩ else ⟨zRc, rfY q (refE S room q), false, 0⟩)
  else ⟨zRc, Rt.zRy, false, 200⟩
theorem dec_no {S : Sb} {room : Int} {q : Rs.Rq} (h : ¬ isChg q) : dec S room q = ⟨zRc, Rt.zRy, false, 200⟩ := by unfold dec; rw [if_neg h]
theorem dec_ref {S : Sb} {room : Int} {q : Rs.Rq} (h : isChg q) (h0 : refE S room q ≠ 0) : dec S room q = ⟨zRc, rfY q (refE S room q), false, 0⟩ := by unfold dec; rw [if_pos h, if_neg h0]
theorem dec_yes {S : Sb} {room : Int} {q : Rs.Rq} (h : isChg q) (h0 : refE S room q = 0) : dec S room q = ⟨recQ S q, rpY q (recQ S q), true, 0⟩ := by unfold dec; rw [if_pos h, if_pos h0]
theorem chg_kinds {q : Rs.Rq} (h : isChg q) : q.k = 1 ∨ q.k = 2 ∨ q.k = 3 ∨ q.k = 4 ∨ q.k = 7 := by have := h.2; unfold Rs.chg at this; exact of_decide_eq_true this
/-- What Answer answers. -/
def isAsk (q : Rs.Rq) : Prop := q.May ∧ (q.k = 5 ∨ q.k = 6 ∨ q.k = 10)
instance (q : Rs.Rq) : Decidable (isAsk q) := by unfold isAsk; exact inferInstance
def ansY (S : Sb) (q : Rs.Rq) : Rt.Ry :=
  if q.k = 5 then ⟨q.t, q.k, idE S q, 0, (((fnd S.L q.i.toNat).getD ⟨0, 0, 0⟩).s : Int), ((fnd S.L q.i.toNat).getD ⟨0, 0, 0⟩).u, 0⟩
  else if q.k = 6 then ⟨q.t, q.k, atE S q.s, ((atX S q.s).i : Int), 0, (atX S q.s).u, 0⟩
  else ⟨q.t, q.k, 0, 0, 0, 0, (S.L.length : Int)⟩
def ans (S : Sb) (q : Rs.Rq) : Rt.Ry × Int := if isAsk q then (ansY S q, 0) else (Rt.zRy, 200)
end Go.Proofs.YtjfhilignbeboaaGreatDoor
