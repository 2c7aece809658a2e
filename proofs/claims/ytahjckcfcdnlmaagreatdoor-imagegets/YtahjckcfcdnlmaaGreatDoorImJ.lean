/- The document's Get, joined; two books beside what was told. -/
import Derived.Test.YtahjckcfcdnlmaaGreatDoorImI
namespace Go.Proofs.YtahjckcfcdnlmaaGreatDoor
open Go.RowKit
attribute [local go_sem ↓] Go.wp_at_zero Go.wp_at_succ
attribute [local go_sem] Oper.semAt_some
theorem rget_no {w : World} {ao : Option Addr} {n cap : Nat} {xs : List Int} {a b c : Int} (hl : xs.length = n) (hat : Oc.At w ao xs) (hB : Oc.Byt xs) (hn48 : n ≤ 9000000000000000) (h : ¬ GetOk a b c xs) : Calls Tryz.prog 7 #[.agg #[.int .i64 a, .int .i64 b, .int .i64 c], .slice ao n cap] w (GdN w (getE a b c xs)) := by
  unfold getE
  by_cases hS : Gx.OkS a b c
  · rw [if_neg (by simpa using hS)]
    by_cases h1 : n < 20
    · rw [if_pos (by omega)]; exact rget_short hS h1
    · rw [if_neg (by omega)]
      by_cases h2 : n < 20 + 14 * imM xs
      · rw [if_pos (by omega)]; exact rget_less hl hat hB hn48 hS (by omega) h2
      · rw [if_neg (by omega)]
        by_cases h3 : 20 + 14 * imM xs < n
        · rw [if_pos (by omega)]; exact rget_more hl hat hB hn48 hS (by omega) h3
        · rw [if_neg (by omega)]
          refine (rget_full hl hat hB hn48 hS (by omega) (by omega)).mono ?_
          rintro e w' (⟨e1, e2, e3, _⟩ | ⟨_, e2⟩)
          · exact absurd ⟨hS, by omega, by omega, e1, e2, e3⟩ h
          · exact e2
  · rw [if_pos hS]; exact rget_shape hS
theorem rget_yes {w : World} {ao : Option Addr} {n cap : Nat} {xs : List Int} {a b c : Int} (hl : xs.length = n) (hat : Oc.At w ao xs) (hB : Oc.Byt xs) (hn48 : n ≤ 9000000000000000) (h : GetOk a b c xs) : Calls Tryz.prog 7 #[.agg #[.int .i64 a, .int .i64 b, .int .i64 c], .slice ao n cap] w (GdY w a b c xs) := by
  refine (rget_full hl hat hB hn48 h.sh (by have := h.l0; omega) (by have := h.l1; omega)).mono ?_
  rintro e w' (⟨_, _, _, e4⟩ | ⟨e1, _⟩)
  · exact e4
  · exact absurd ⟨h.ha, h.hb, h.rt⟩ e1
theorem getE_ne {a b c : Int} {xs : List Int} : getE a b c xs ≠ 0 := by
  unfold getE
  split
  · omega
  · split
    · omega
    · split
      · omega
      · split <;> omega
/-- A hold that would last no time is refused. -/
theorem hold0_no {S : Sb} (_h : S.Ok) : appE S ⟨1, (S.n : Int), 0, 0, 0⟩ ≠ 0 := by
  intro e
  have hm := appE_may e
  unfold Rc.May at hm
  simp at hm
/-- A cancel of the first booking. -/
theorem cancel_one {S : Sb} (h : S.Ok) {x : Bg} {Y : List Bg} (hL : S.L = x :: Y) : appE S ⟨3, (x.i : Int), 0, 0, 0⟩ = 0 ∧ app S ⟨3, (x.i : Int), 0, 0, 0⟩ = { S with L := Y } := by
  have hx := h.id x (by rw [hL]; simp)
  have hE : appE S ⟨3, (x.i : Int), 0, 0, 0⟩ = 0 := by
    have hm : Rc.May ⟨3, (x.i : Int), 0, 0, 0⟩ := by unfold Rc.May; simp; omega
    unfold appE
    rw [if_neg (by simpa using hm)]
    simp [fnd, hL]
  refine ⟨hE, ?_⟩
  rw [app_yes hE]
  unfold appS
  simp only [Int.toNat_natCast]
  have hd : del S.L x.i = Y := by
    have ha := h.asc
    rw [hL] at ha
    unfold AscB at ha
    rw [List.pairwise_cons] at ha
    unfold del
    rw [hL, List.filter_cons]
    simp
    intro y hy
    have := ha.1 y hy
    omega
  rw [hd]
  simp
theorem Lk.off {w W W' : World} {b : Nat} {S : Sb} {K k : Nat} {p : Bp} (h : Lk w W b S K p []) (g : W.grownBy W' (some k)) (hk : w.heap.size ≤ k) (hn : ¬ p.own k) : Lk w W' b S K p [] :=
  ⟨h.eb, h.bk.far (Kept.of g (S := fun i => i = k) (fun j e _ => (Option.some.inj e).symm)) (fun i hi e => hn (by rw [← e]; exact hi)), grown_then h.gr g (fun j e => .inl (by have := Option.some.inj e; omega)), h.own, fun x hx => by cases hx⟩
/-- Two books of one image, and what was told of it. -/
structure Gt (w W : World) (x y : Nat) (S T : Sb) (K : Nat) (p q : Bp) (B : Nat) (cs : List Value) (v : Value) (M : Nat) (L : List Bg) : Prop where
  kx : Lk w W x S K p []
  ky : Lk w W y T 4096 q []
  ap : ∀ i, q.own i → ¬ p.own i
  bx : W.heap[B]? = some (.cells cs.toArray 33 (0, 0))
  nb : ¬ p.own B
  ro : W.ownsRow w.heap.size 45 3 v M (bgs L)
  rn : ∀ g, v.ownBlock = some g → ¬ p.own g
section
variable {w W W' : World} {x y : Nat} {S T : Sb} {K : Nat} {p p' q : Bp} {B : Nat} {cs : List Value} {v : Value} {M : Nat} {L : List Bg}
theorem Gt.then (h : Gt w W x y S T K p q B cs v M L) (g : W.grownBy W' none) : Gt w W' x y S T K p q B cs v M L :=
  ⟨h.kx.then g, h.ky.then g, h.ap, (g.block _ (row_lt h.bx) (by simp)).trans h.bx, h.nb, own_keep h.ro g, h.rn⟩
theorem Gt.step (h : Gt w W x y S T K p q B cs v M L) {S' : Sb} {K' : Nat} (k : Bst W W' p p') (hb : Lk w W' x S' K' p' []) : Gt w W' x y S' T K' p' q B cs v M L := by
  have h1 := h.ky.beside h.kx h.ap k
  have hno : ∀ i o, W.heap[i]? = some o → ¬ p.own i → ¬ p'.own i := fun i o hi hn e => by
    rcases k.own i e with e | e
    · exact hn e
    · have := row_lt hi; omega
  refine ⟨hb, h1.1, h1.2, k.kept.at h.bx h.nb, hno _ _ h.bx h.nb, Ix.row_keep h.ro (fun g hg => ?_), fun g hg => ?_⟩
  · obtain ⟨_, cur, hc⟩ := Ix.own_block h.ro hg
    exact (k.kept.at hc (h.rn g hg)).trans hc.symm
  · obtain ⟨_, cur, hc⟩ := Ix.own_block h.ro hg
    exact hno _ _ hc (h.rn g hg)
theorem Gt.apply (h : Gt w W x y S T K p q B cs v M L) (ho : S.Ok) (hK : K ≤ 10000000) (hT : Rk.Tab w) (r : Rc) (hr : r.Ok) : Calls Tryz.prog 12 #[.pointer (some ⟨x, 0, none⟩), Rk.rcV r] W fun e w' => e = .returned (.int .i64 (appE S r)) ∧ ∃ p', Gt w w' x y (app S r) T (K + 1) p' q B cs v M L := by
  refine (h.kx.apply ho hK hT r hr).mono ?_
  rintro e w' ⟨rfl, p', h1, h2⟩
  exact ⟨rfl, p', h.step h2 h1⟩
end
end Go.Proofs.YtahjckcfcdnlmaaGreatDoor
