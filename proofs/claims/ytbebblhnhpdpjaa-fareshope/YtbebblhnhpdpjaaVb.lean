/- Fares as they lie; whether they may be. -/
import Derived.Test.YtbebblhnhpdpjaaVa
import Derived.Test.YtbebblhnhpdpjaaOb
import Derived.Laws.Externs
namespace Go.Proofs.Ytbebblhnhpdpjaa
open Go.RowKit
attribute [local go_sem ↓] Go.wp_at_zero Go.wp_at_succ

theorem run_add {s q r : Nat} (h : floatBits .add .f64 s q = some r) (w : World) : (binOp .add 33 (.float .f64 s) (.float .f64 q)).run Try.prog w = .ok (.float .f64 r) w := run_float_arith w _ _ _ _ _ _ h
theorem run_mul {s q r : Nat} (h : floatBits .mul .f64 s q = some r) (w : World) : (binOp .mul 33 (.float .f64 s) (.float .f64 q)).run Try.prog w = .ok (.float .f64 r) w := run_float_arith w _ _ _ _ _ _ h
theorem run_sub {s q r : Nat} (h : floatBits .sub .f64 s q = some r) (w : World) : (binOp .sub 33 (.float .f64 s) (.float .f64 q)).run Try.prog w = .ok (.float .f64 r) w := run_float_arith w _ _ _ _ _ _ h

/-- What came in, as a row of floats. -/
structure BIn (w : World) (bo : Option Addr) (cap : Nat) (B : List Nat) : Prop where
  at_ : At w bo B
  nil : bo = none → B.length = 0 ∧ cap = 0
  size : B.length ≤ 140737488355000
  cap : B.length ≤ cap
theorem BIn.grown {w w' : World} {bo : Option Addr} {cap : Nat} {B : List Nat} (h : BIn w bo cap B) (hg : w.grownBy w' none) : BIn w' bo cap B := ⟨h.at_.grown hg, h.nil, h.size, h.cap⟩
structure FaAt (w : World) (b off : Nat) (p : Nat) (cs : List Nat) (bo : Option Addr) (bc : Nat) : Prop where
  c0 : w.cell? ⟨b, off, none⟩ = some (.float .f64 p)
  c1 : w.cell? ⟨b, off + 1, none⟩ = some (.slice bo cs.length bc)
  sin : BIn w bo bc cs
theorem FaAt.kept {w w' : World} {b off p : Nat} {cs : List Nat} {bo : Option Addr} {bc : Nat} {row : Option Nat} (h : FaAt w b off p cs bo bc) (hg : w.grownBy w' row) (h1 : row ≠ some b) (h2 : ∀ a, bo = some a → row ≠ some a.block) : FaAt w' b off p cs bo bc :=
  ⟨hg.cell h.c0 (fun e => h1 e.symm), hg.cell h.c1 (fun e => h1 e.symm), ⟨h.sin.at_.kept hg fun a e k => h2 a e k.symm, h.sin.nil, h.sin.size, h.sin.cap⟩⟩
theorem FaAt.grown {w w' : World} {b off p : Nat} {cs : List Nat} {bo : Option Addr} {bc : Nat} (h : FaAt w b off p cs bo bc) (hg : w.grownBy w' none) : FaAt w' b off p cs bo bc :=
  ⟨hg.cell h.c0 (by simp), hg.cell h.c1 (by simp), h.sin.grown hg⟩
abbrev Fa := Nat × List Nat
def FasAt (w : World) (ao : Option Addr) (l : List Fa) : Prop := ∀ (j : Nat) (c : Fa), l[j]? = some c → ∃ b off bo bc, ao = some ⟨b, off, none⟩ ∧ FaAt w b (off + j * 2) c.1 c.2 bo bc
theorem FasAt.grown {w w' : World} {ao : Option Addr} {l : List Fa} (h : FasAt w ao l) (hg : w.grownBy w' none) : FasAt w' ao l := by
  intro j o hj
  obtain ⟨b, off, bo, bc, e, ho⟩ := h j o hj
  exact ⟨b, off, bo, bc, e, ho.grown hg⟩

def within (x lo hi : Nat) : Bool := (FloatKind.f64.format.order x lo == some .gt || FloatKind.f64.format.order x lo == some .eq) && (FloatKind.f64.format.order x hi == some .lt || FloatKind.f64.format.order x hi == some .eq)
theorem within_no {x lo : Nat} (hi : Nat) (h : ¬ (FloatKind.f64.format.order x lo = some Ordering.gt ∨ FloatKind.f64.format.order x lo = some Ordering.eq)) : within x lo hi = false := by
  have : (FloatKind.f64.format.order x lo == some .gt || FloatKind.f64.format.order x lo == some .eq) = false := by simpa using h
  unfold within; rw [this]; rfl
theorem within_lik (p : Nat) : within p 0 4607182418800017408 = lik p := rfl
theorem within_any (x lo hi : Nat) (w : World) : Calls Try.prog 36 #[.float .f64 x, .float .f64 lo, .float .f64 hi] w fun e w' => e = .returned (.bool (within x lo hi)) ∧ w' = w := by
  go_enter Try.func36, Try.ntmps36
  go_wp2
  · go_ret
    exact ⟨rfl, rfl⟩
  · rename_i h
    rw [within_no hi h]
    go_ret
    exact ⟨rfl, rfl⟩

/-- The sum of the first so many chances. -/
def cu (cs : List Nat) : Nat → Nat
  | 0 => 0
  | k + 1 => ad (cu cs k) (ru (cs.getD k 0))
def chOk (cs : List Nat) : Bool := decide (1 ≤ cs.length ∧ cs.length ≤ 256) && cs.all lik && within (cu cs cs.length) 4607182409792818153 4607182423303617035
theorem cu_bd {cs : List Nat} : ∀ k, k ≤ 256 → (∀ j, j < k → lik (cs.getD j 0) = true) → val (cu cs k) ≤ k * pw 1074 := by
  intro k
  induction k with
  | zero => intro _ _; show val 0 ≤ _; rw [val_zero]; exact Nat.zero_le _
  | succ k ih =>
    intro hk h
    refine rnd_bdm (by omega) ?_
    have h1 := ih (by omega) (fun j hj => h j (by omega))
    have h2 := lik_ru (h k (by omega))
    rw [Nat.add_mul, Nat.one_mul]; omega
theorem cu_fin {cs : List Nat} (k : Nat) (hk : k ≤ 256) (h : ∀ j, j < k → lik (cs.getD j 0) = true) : cu cs k < 2047 * 2 ^ 52 := by
  refine bd_fin (n := 8) (Nat.le_trans (cu_bd k hk h) ?_) (by omega)
  rw [Nat.add_comm 1074 8, pw_add]
  exact Nat.mul_le_mul_right _ (by rw [show pw 8 = 256 from rfl]; exact hk)
theorem all_lik {cs : List Nat} (h : ∀ j, j < cs.length → lik (cs.getD j 0) = true) : cs.all lik = true := by
  rw [List.all_eq_true]
  intro x hx
  obtain ⟨j, hj, rfl⟩ := List.getElem_of_mem hx
  have := h j hj
  rwa [List.getD_eq_getElem?_getD, List.getElem?_eq_getElem hj] at this
theorem lik_all {cs : List Nat} (h : cs.all lik = true) (j : Nat) (hj : j < cs.length) : lik (cs.getD j 0) = true := by
  rw [List.all_eq_true] at h
  rw [List.getD_eq_getElem?_getD, List.getElem?_eq_getElem hj]
  exact h _ (List.getElem_mem hj)
theorem chOk_long {cs : List Nat} (h : cs.length = 0 ∨ 256 < cs.length) : chOk cs = false := by
  unfold chOk
  rw [decide_eq_false (by omega)]; rfl
theorem chOk_not {cs : List Nat} {j : Nat} (hj : j < cs.length) (h : lik (cs.getD j 0) = false) : chOk cs = false := by
  unfold chOk
  have : cs.all lik = false := by
    cases hb : cs.all lik
    · rfl
    · rw [lik_all hb j hj] at h; cases h
  rw [this]; simp
theorem chOk_end {cs : List Nat} (h1 : 1 ≤ cs.length) (h2 : cs.length ≤ 256) (h : ∀ j, j < cs.length → lik (cs.getD j 0) = true) : chOk cs = within (cu cs cs.length) 4607182409792818153 4607182423303617035 := by
  unfold chOk
  rw [decide_eq_true ⟨h1, h2⟩, all_lik h]; rfl

theorem chances_any (bo : Option Addr) (bc n : Nat) (cs : List Nat) (w : World) (hn : n = cs.length) (hb : BIn w bo bc cs) :
    Calls Try.prog 37 #[.slice bo n bc] w fun e w' => e = .returned (.bool (chOk cs)) ∧ w' = w := by
  have HB := hide hb
  have HN := hide hn
  have hs := hb.size
  rw [← hn] at hs
  clear hb hn
  by_cases hl : n = 0 ∨ 256 < n
  · have hf := chOk_long (cs := cs) (by have := HN.out; omega)
    rw [hf]
    by_cases h0 : n = 0
    · subst h0
      go_enter Try.func37, Try.ntmps37
      go_wp2
      go_ret
      exact ⟨rfl, rfl⟩
    · have h1 : 256 < n := by omega
      have h2 : (256 : Int) < (n : Int) := by omega
      have h3 : ((n : Int) == 0) = false := by simp; omega
      go_enter Try.func37, Try.ntmps37
      go_wp2
      go_ret
      exact ⟨rfl, rfl⟩
  · have h1 : 1 ≤ n ∧ n ≤ 256 := by omega
    have h2 : ¬ (256 : Int) < (n : Int) := by omega
    have h3 : ((n : Int) == 0) = false := by simp; omega
    have h4 : (n : Int) ≤ 256 := by omega
    clear hl
    go_enter Try.func37, Try.ntmps37
    go_wp2
    go_loopg [3, 16] n (fun k s i wr => ∃ m : Nat, k + m = n ∧ i = .int .i64 (m : Int) ∧ s = .float .f64 (cu cs m) ∧ wr = w ∧ Hid (∀ j, j < m → lik (cs.getD j 0) = true))
    case atStart => exact ⟨0, by omega, rfl, rfl, rfl, hide (fun j hj => by omega)⟩
    case round =>
      obtain ⟨m, hkm, rfl, rfl, rfl, HM⟩ := hrel
      by_cases hgo : 0 < gk
      · have hlt : m < n := by omega
        have hmn : m < cs.length := by rw [← HN.out]; omega
        obtain ⟨a, rfl, hc⟩ := HB.out.at_ m (cs.getD m 0) (by rw [List.getD_eq_getElem?_getD, List.getElem?_eq_getElem hmn]; rfl)
        have hi0 : (m : Int) < (n : Int) := by omega
        have hcu : cu cs (m + 1) = ad (cu cs m) (ru (cs.getD m 0)) := rfl
        have hfin := cu_fin (cs := cs) m (by omega) HM.out
        cases hb : lik (cs.getD m 0)
        · have HF := hide (chOk_not hmn hb)
          clear hcu hfin
          generalize cs.getD m 0 = x at *
          have HB2 := hide hb
          clear hb
          go_wp2_with fail
          refine (within_any x 0 4607182418800017408 _).mono ?_
          rintro e w' ⟨rfl, hw'⟩
          obtain rfl := hw'
          rw [within_lik, HB2.out]
          go_wp2
          go_ret
          exact ⟨by rw [HF.out]; rfl, rfl⟩
        · have HM2 : Hid (∀ j, j < m + 1 → lik (cs.getD j 0) = true) := hide (fun j hj => by
            by_cases hjm : j < m
            · exact HM.out j hjm
            · have : j = m := by omega
              subst this; exact hb)
          have hadd := nn_add (b := cu cs m) (lik_nn hb) hfin (hcu ▸ cu_fin (cs := cs) (m + 1) (by omega) HM2.out)
          rw [← hcu] at hadd
          have hr := run_add hadd
          have HB2 := hide hb
          clear hb hadd hcu hfin
          generalize cs.getD m 0 = x at *
          generalize cu cs m = s0 at *
          generalize hs1 : cu cs (m + 1) = s1 at *
          have HS := hide hs1
          clear hs1
          go_wp2_with fail
          refine (within_any x 0 4607182418800017408 _).mono ?_
          rintro e w' ⟨rfl, hw'⟩
          obtain rfl := hw'
          rw [within_lik, HB2.out]
          go_wp2
          go_roundg (gk - 1)
          case measure => omega
          case rel => exact ⟨m + 1, by omega, by go_num, by rw [HS.out], rfl, HM2⟩
      · have hm : m = n := by omega
        subst hm
        have hres := chOk_end (cs := cs) (by have := HN.out; omega) (by have := HN.out; omega) (fun j hj => HM.out j (by have := HN.out; omega))
        rw [← HN.out] at hres
        have HF := hide hres
        clear hres
        go_wp2_with fail
        refine (within_any (cu cs m) 4607182409792818153 4607182423303617035 _).mono ?_
        rintro e w' ⟨rfl, rfl⟩
        go_wp2
        go_ret
        exact ⟨by rw [HF.out]; rfl, rfl⟩
end Go.Proofs.Ytbebblhnhpdpjaa
