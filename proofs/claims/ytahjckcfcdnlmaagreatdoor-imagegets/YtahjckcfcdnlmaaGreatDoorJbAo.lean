/- Texts joined: Im0, OcBase, OcBehind, OcWriter. -/
import Derived.Test.YtahjckcfcdnlmaaGreatDoorJbAn
import Derived.Test.YtahjckcfcdnlmaaGreatDoorJbAe
import Derived.WalkKit
import Derived.WalkSpells
import Derived.WalkLawsBesides
import Derived.Laws.CopyOwn
import Derived.Deep.MidRow
import Derived.Test.YtahjckcfcdnlmaaGreatDoorProg
import Derived.Deep.LoopGhost
import Derived.Deep.RegionHeld3
import Derived.Deep.DrawnRows
/- An image: numbers and lists alone, without the program. -/
namespace Go.Proofs.YtahjckcfcdnlmaaGreatDoor
open Oc (leB leV Byt)
/-- A booking as it is told: it may be none. -/
structure Bw where
  i : Nat
  s : Int
  u : Int
instance : Inhabited Bw := ⟨⟨0, 0, 0⟩⟩
def Bw.bg (x : Bw) : Bg := ⟨x.i, x.s.toNat, x.u⟩
def Bg.bw (x : Bg) : Bw := ⟨x.i, (x.s : Int), x.u⟩
theorem Bg.bw_bg (x : Bg) : x.bw.bg = x := rfl
def rdw (X : List Bw) (j : Nat) : Bw := (X[j]?).getD default
/-- The least id that may come at a place. -/
def lst (X : List Bw) (j : Nat) : Nat := if j = 0 then 1 else (rdw X (j - 1)).i + 1
/-- The booking at a place may be. -/
structure MayJ (a b n : Nat) (t : Int) (X : List Bw) (j : Nat) : Prop where
  lo : lst X j ≤ (rdw X j).i
  hi : (rdw X j).i < n
  s0 : 0 ≤ (rdw X j).s
  s1 : (rdw X j).s < (a : Int)
  one : ∀ k, k < j → (rdw X k).s ≠ (rdw X j).s
  room : j < b
  til : (rdw X j).u = 0 ∨ (t < (rdw X j).u ∧ (rdw X j).u ≤ mxC)
/-- All may be. -/
def OkX (a b n : Nat) (t : Int) (X : List Bw) : Prop := ∀ j, j < X.length → MayJ a b n t X j
theorem rdw_take {X : List Bw} {j k : Nat} (h : k < j) : rdw (X.take j) k = rdw X k := by
  unfold rdw; rw [List.getElem?_take_of_lt h]
theorem take_rdw {X : List Bw} {j : Nat} (h : j < X.length) : X.take (j + 1) = X.take j ++ [rdw X j] := by
  rw [List.take_add_one]; unfold rdw; rw [List.getElem?_eq_getElem h]; rfl
theorem rdw_mem {X : List Bw} {y : Bw} (h : y ∈ X) : ∃ k, k < X.length ∧ rdw X k = y := by
  obtain ⟨k, hk, e⟩ := List.mem_iff_getElem.1 h
  exact ⟨k, hk, by unfold rdw; rw [List.getElem?_eq_getElem hk, e]; rfl⟩
theorem map_bg {X : List Bw} (h : ∀ y ∈ X, 0 ≤ y.s) : (X.map Bw.bg).map Bg.bw = X := by
  rw [List.map_map]
  conv => rhs; rw [← List.map_id X]
  refine List.map_congr_left (fun y hy => ?_)
  have := h y hy
  show (⟨y.i, ((y.s.toNat : Nat) : Int), y.u⟩ : Bw) = y
  cases y; simp at *; omega
/-- The book of the first bookings. -/
def sbX (a b c n : Nat) (t : Int) (X : List Bw) (j : Nat) : Sb := ⟨a, b, c, n, t, (X.take j).map Bw.bg⟩
theorem sbX_ok {a b c n : Nat} {t : Int} {X : List Bw} (h0 : Sb.Ok ⟨a, b, c, n, t, []⟩) : ∀ j, j ≤ X.length → (∀ k, k < j → MayJ a b n t X k) → (sbX a b c n t X j).Ok := by
  intro j
  induction j with
  | zero => intro _ _; simpa [sbX] using h0
  | succ j ih =>
    intro hj hm
    have ho := ih (by omega) (fun k hk => hm k (by omega))
    have hM := hm j (by omega)
    have hL : (sbX a b c n t X (j + 1)).L = (sbX a b c n t X j).L ++ [(rdw X j).bg] := by
      simp only [sbX]; rw [take_rdw (by omega), List.map_append]; rfl
    have hx : ∀ y ∈ (sbX a b c n t X j).L, ∃ k, k < j ∧ y = (rdw X k).bg := by
      intro y hy
      simp only [sbX, List.mem_map] at hy
      obtain ⟨z, hz, rfl⟩ := hy
      obtain ⟨k, hk, e⟩ := rdw_mem hz
      have hk' : k < j := by simp only [List.length_take] at hk; omega
      rw [rdw_take hk'] at e
      exact ⟨k, hk', by rw [e]⟩
    have hasc : ∀ k, k < j → (rdw X k).i < (rdw X j).i := by
      intro k hk
      have h1 := hM.lo
      unfold lst at h1
      rw [if_neg (by omega)] at h1
      by_cases hkj : k = j - 1
      · subst hkj; omega
      · have h2 : ((sbX a b c n t X j).L)[k]? = some (rdw X k).bg := by
          simp only [sbX, List.getElem?_map, List.getElem?_take_of_lt hk]
          unfold rdw; rw [List.getElem?_eq_getElem (by omega)]; rfl
        have h3 : ((sbX a b c n t X j).L)[j - 1]? = some (rdw X (j - 1)).bg := by
          simp only [sbX, List.getElem?_map, List.getElem?_take_of_lt (show j - 1 < j by omega)]
          unfold rdw; rw [List.getElem?_eq_getElem (by omega)]; rfl
        obtain ⟨l2, e2⟩ := List.getElem?_eq_some_iff.1 h2
        obtain ⟨l3, e3⟩ := List.getElem?_eq_some_iff.1 h3
        have := List.pairwise_iff_getElem.1 ho.asc k (j - 1) l2 l3 (by omega)
        rw [e2, e3] at this
        simp only [Bw.bg] at this
        omega
    refine ⟨ho.a0, ho.a1, ho.b0, ho.b1, ho.c0, ho.c1, ho.n0, ho.n1, ho.t0, ho.t1, ?_, ?_, ?_, ?_, ?_, ?_⟩
    · rw [hL]
      refine List.pairwise_append.2 ⟨ho.asc, List.pairwise_singleton _ _, fun y hy z hz => ?_⟩
      simp only [List.mem_singleton] at hz
      obtain ⟨k, hk, rfl⟩ := hx y hy
      rw [hz]
      exact hasc k hk
    · rw [hL]
      intro y hy
      rcases List.mem_append.1 hy with hy | hy
      · exact ho.id y hy
      · simp only [List.mem_singleton] at hy
        subst hy
        refine ⟨?_, hM.hi⟩
        have := hM.lo
        unfold lst at this
        show 1 ≤ (rdw X j).i
        split at this <;> omega
    · rw [hL]
      intro y hy
      rcases List.mem_append.1 hy with hy | hy
      · exact ho.st y hy
      · simp only [List.mem_singleton] at hy
        subst hy
        have h1 := hM.s0; have h2 := hM.s1
        show (rdw X j).s.toNat < a
        omega
    · rw [hL]
      refine List.pairwise_append.2 ⟨ho.one, List.pairwise_singleton _ _, fun y hy z hz => ?_⟩
      simp only [List.mem_singleton] at hz
      obtain ⟨k, hk, rfl⟩ := hx y hy
      rw [hz]
      have h1 := hM.one k hk
      have h2 := hM.s0
      have h3 := (hm k (by omega)).s0
      show (rdw X k).s.toNat ≠ (rdw X j).s.toNat
      omega
    · rw [hL]
      intro y hy
      rcases List.mem_append.1 hy with hy | hy
      · exact ho.til y hy
      · simp only [List.mem_singleton] at hy
        subst hy
        exact hM.til
    · have := hM.room
      simp only [sbX, List.length_map, List.length_take]
      omega
theorem lst_asc {X : List Bw} {j : Nat} (_h : j < X.length) : lst X (j + 1) = (rdw X j).i + 1 := by unfold lst; simp
/-- A book's bookings, as they are told, may be. -/
theorem okX_of {S : Sb} (h : S.Ok) : OkX S.a S.b S.n S.t (S.L.map Bg.bw) := by
  intro j hj
  simp only [List.length_map] at hj
  have hr : ∀ k, k < S.L.length → rdw (S.L.map Bg.bw) k = (S.L[k]!).bw := by
    intro k hk
    unfold rdw; rw [List.getElem?_map, List.getElem?_eq_getElem hk]; simp [hk]
  have hm : S.L[j]! ∈ S.L := by rw [getElem!_pos S.L j hj]; exact List.getElem_mem hj
  refine ⟨?_, ?_, ?_, ?_, ?_, ?_, ?_⟩
  · unfold lst
    split
    · rw [hr j hj]; exact (h.id _ hm).1
    · rw [hr j hj, hr (j - 1) (by omega)]
      have := List.pairwise_iff_getElem.1 h.asc (j - 1) j (by omega) hj (by omega)
      rw [getElem!_pos S.L j hj, getElem!_pos S.L (j - 1) (by omega)]
      simp only [Bg.bw]; omega
  · rw [hr j hj]; exact (h.id _ hm).2
  · rw [hr j hj]; simp [Bg.bw]
  · rw [hr j hj]; have := h.st _ hm; simp only [Bg.bw]; omega
  · intro k hk
    rw [hr j hj, hr k (by omega)]
    have := List.pairwise_iff_getElem.1 h.one k j (by omega) hj hk
    rw [getElem!_pos S.L j hj, getElem!_pos S.L k (by omega)]
    simp only [Bg.bw]; omega
  · have := h.few; omega
  · rw [hr j hj]; exact h.til _ hm

/-- A number's bytes. -/
theorem leB_leV : ∀ (xs : List Int), Byt xs → leB (leV xs) xs.length = xs := by
  intro xs
  induction xs with
  | nil => intro _; rfl
  | cons x r ih =>
    intro h
    have hx := h x List.mem_cons_self
    have hr := ih h.tail
    rw [List.length_cons]
    unfold leB at hr ⊢
    rw [List.range_succ_eq_map, List.map_cons, List.map_map]
    have e0 : leV (x :: r) / 2 ^ (8 * 0) % 256 = x := by simp only [leV]; omega
    rw [e0]
    congr 1
    conv => rhs; rw [← hr]
    refine List.map_congr_left (fun j _ => ?_)
    show leV (x :: r) / 2 ^ (8 * (j + 1)) % 256 = leV r / 2 ^ (8 * j) % 256
    rw [Oc.pow_succ8, ← Int.ediv_ediv_of_nonneg (by omega)]
    have : leV (x :: r) / 256 = leV r := by simp only [leV]; omega
    rw [this]
theorem leV_leB' {N : Int} {k : Nat} (h0 : 0 ≤ N) (h1 : N < 2 ^ (8 * k)) : leV (leB N k) = N := by
  rw [Oc.leV_leB N h0, Int.emod_eq_of_lt h0 h1]
/-- The number of some bytes from a place on. -/
def gV (xs : List Int) (o k : Nat) : Int := leV ((xs.drop o).take k)
theorem gV_bound {xs : List Int} (h : Byt xs) (o k : Nat) : 0 ≤ gV xs o k ∧ gV xs o k < 2 ^ (8 * k) := by
  have h1 := Oc.leV_bound ((xs.drop o).take k) ((h.drop o).take k)
  refine ⟨h1.1, Int.lt_of_lt_of_le h1.2 ?_⟩
  exact_mod_cast Nat.pow_le_pow_right (by omega) (Nat.mul_le_mul_left 8 (by simp; omega))
theorem leB_gV {xs : List Int} (h : Byt xs) {o k : Nat} (hl : o + k ≤ xs.length) : leB (gV xs o k) k = (xs.drop o).take k := by
  have := leB_leV ((xs.drop o).take k) ((h.drop o).take k)
  rw [show ((xs.drop o).take k).length = k by simp; omega] at this
  exact this
theorem gV_drop (xs : List Int) (m o k : Nat) : gV (xs.drop m) o k = gV xs (m + o) k := by unfold gV; rw [List.drop_drop]
theorem gV_take (xs : List Int) {m o k : Nat} (h : o + k ≤ m) : gV (xs.take m) o k = gV xs o k := by
  unfold gV; rw [List.drop_take, List.take_take, Nat.min_eq_left (by omega)]
/-- A booking's bytes, the head's, an image. -/
def imB (x : Bg) : List Int := leB (x.i : Int) 4 ++ (leB (x.s : Int) 2 ++ leB x.u 8)
def imBs (L : List Bg) : List Int := L.flatMap imB
def imH (a b n : Nat) (t : Int) (m : Nat) : List Int := leB (a : Int) 2 ++ (leB (b : Int) 4 ++ (leB (n : Int) 4 ++ (leB t 8 ++ leB (m : Int) 2)))
def img (S : Sb) : List Int := imH S.a S.b S.n S.t S.L.length ++ imBs S.L
theorem imB_length (x : Bg) : (imB x).length = 14 := by simp [imB, Oc.leB_length]
theorem imH_length (a b n : Nat) (t : Int) (m : Nat) : (imH a b n t m).length = 20 := by simp [imH, Oc.leB_length]
theorem imBs_length (L : List Bg) : (imBs L).length = 14 * L.length := by
  unfold imBs
  induction L with
  | nil => rfl
  | cons x r ih => rw [List.flatMap_cons, List.length_append, imB_length, ih, List.length_cons]; omega
theorem img_length (S : Sb) : (img S).length = 20 + 14 * S.L.length := by rw [img, List.length_append, imH_length, imBs_length]
theorem byt_imB (x : Bg) : Byt (imB x) := (Oc.byt_leB _ _).append ((Oc.byt_leB _ _).append (Oc.byt_leB _ _))
theorem byt_imBs (L : List Bg) : Byt (imBs L) := by
  intro y hy
  simp only [imBs, List.mem_flatMap] at hy
  obtain ⟨x, _, hx⟩ := hy
  exact byt_imB x y hx
theorem byt_img (S : Sb) : Byt (img S) := ((Oc.byt_leB _ _).append ((Oc.byt_leB _ _).append ((Oc.byt_leB _ _).append ((Oc.byt_leB _ _).append (Oc.byt_leB _ _))))).append (byt_imBs _)
theorem imBs_snoc (L : List Bg) (x : Bg) : imBs (L ++ [x]) = imBs L ++ imB x := by simp [imBs]
/-- 64 bits as an int. -/
def s64 (N : Int) : Int := IntKind.i64.wrap N
theorem s64_id {N : Int} (h0 : -9223372036854775808 ≤ N) (h1 : N ≤ 9223372036854775807) : s64 N = N := by unfold s64; rw [IntKind.wrap_i64]; omega
theorem s64_pos {N : Int} (h0 : 0 ≤ N) (h1 : N < 18446744073709551616) (h : 0 ≤ s64 N) : s64 N = N := by unfold s64 at *; rw [IntKind.wrap_i64] at *; omega
theorem s64_range (N : Int) : -9223372036854775808 ≤ s64 N ∧ s64 N ≤ 9223372036854775807 := by unfold s64; rw [IntKind.wrap_i64]; omega
/-- The booking whose bytes lie at a place. -/
def bwAt (xs : List Int) (j : Nat) : Bw := ⟨(gV xs (14 * j) 4).toNat, gV xs (14 * j + 4) 2, s64 (gV xs (14 * j + 6) 8)⟩
def bws (xs : List Int) (m : Nat) : List Bw := (List.range m).map (bwAt xs)
theorem bws_length (xs : List Int) (m : Nat) : (bws xs m).length = m := by simp [bws]
theorem bws_succ (xs : List Int) (m : Nat) : bws xs (m + 1) = bws xs m ++ [bwAt xs m] := by simp [bws, List.range_succ]
theorem rdw_bws (xs : List Int) {m j : Nat} (h : j < m) : rdw (bws xs m) j = bwAt xs j := by simp [rdw, bws, h]
theorem drop_leB {N : Int} {k : Nat} (Y : List Int) : (leB N k ++ Y).drop k = Y := by
  conv => lhs; arg 1; rw [← Oc.leB_length N k]
  exact List.drop_left
theorem take_leB {N : Int} {k : Nat} (Y : List Int) : (leB N k ++ Y).take k = leB N k := by
  conv => lhs; arg 1; rw [← Oc.leB_length N k]
  exact List.take_left
/-- A booking is read of its bytes, with others behind. -/
theorem bw_imB {x : Bg} {Y : List Int} (hi : x.i < 4294967296) (hs : x.s < 65536) (hu : 0 ≤ x.u ∧ x.u ≤ mxC) : bwAt (imB x ++ Y) 0 = x.bw := by
  have hu2 : x.u < 9223372036854775808 := by have := hu.2; simp only [mxC] at this; omega
  have e : imB x ++ Y = leB (x.i : Int) 4 ++ (leB (x.s : Int) 2 ++ (leB x.u 8 ++ Y)) := by simp [imB, List.append_assoc]
  have g1 : gV (imB x ++ Y) 0 4 = (x.i : Int) := by
    unfold gV; rw [e, List.drop_zero, take_leB]; exact leV_leB' (by omega) (by omega)
  have d4 : (imB x ++ Y).drop 4 = leB (x.s : Int) 2 ++ (leB x.u 8 ++ Y) := by rw [e, drop_leB]
  have g2 : gV (imB x ++ Y) 4 2 = (x.s : Int) := by
    unfold gV; rw [d4, take_leB]; exact leV_leB' (by omega) (by omega)
  have g3 : gV (imB x ++ Y) 6 8 = x.u := by
    unfold gV
    rw [show (imB x ++ Y).drop 6 = leB x.u 8 ++ Y by rw [← drop_leB (N := (x.s : Int)) (k := 2) (leB x.u 8 ++ Y), ← d4, List.drop_drop], take_leB]
    exact leV_leB' hu.1 (by omega)
  unfold bwAt
  rw [show 14 * 0 = 0 from rfl, show 0 + 4 = 4 from rfl, show 0 + 6 = 6 from rfl, g1, g2, g3, s64_id (by omega) (by omega)]
  simp [Bg.bw]
theorem bwAt_drop (xs : List Int) (j : Nat) : bwAt (xs.drop 14) j = bwAt xs (j + 1) := by
  unfold bwAt
  rw [gV_drop, gV_drop, gV_drop, show 14 + 14 * j = 14 * (j + 1) by omega, show 14 + (14 * j + 4) = 14 * (j + 1) + 4 by omega, show 14 + (14 * j + 6) = 14 * (j + 1) + 6 by omega]
theorem bws_imBs : ∀ {L : List Bg}, (∀ x ∈ L, x.i < 4294967296 ∧ x.s < 65536 ∧ 0 ≤ x.u ∧ x.u ≤ mxC) → bws (imBs L) L.length = L.map Bg.bw
  | [], _ => rfl
  | x :: r, h => by
    obtain ⟨h1, h2, h3⟩ := h x List.mem_cons_self
    have ih := bws_imBs (L := r) (fun y hy => h y (List.mem_cons_of_mem _ hy))
    have e : imBs (x :: r) = imB x ++ imBs r := by simp [imBs]
    have e2 : (imBs (x :: r)).drop 14 = imBs r := by rw [e, ← imB_length x]; exact List.drop_left
    unfold bws at ih ⊢
    rw [List.length_cons, List.range_succ_eq_map, List.map_cons, List.map_map, List.map_cons]
    refine congr (congrArg _ ?_) ?_
    · rw [e]; exact bw_imB h1 h2 h3
    · rw [← ih, ← e2]
      exact List.map_congr_left (fun j _ => (bwAt_drop _ j).symm)
theorem Sb.Ok.rng {S : Sb} (h : S.Ok) : ∀ x ∈ S.L, x.i < 4294967296 ∧ x.s < 65536 ∧ 0 ≤ x.u ∧ x.u ≤ mxC := by
  intro x hx
  have h1 := (h.id x hx).2; have h2 := h.n1; have h3 := h.st x hx; have h4 := h.a1; have h5 := h.til x hx; have h6 := h.t0
  refine ⟨by omega, by omega, ?_⟩
  simp only [mxC] at *
  omega
/-- What the head tells. -/
structure Hd (xs : List Int) (a b n : Int) (t : Int) (m : Nat) : Prop where
  ha : gV xs 0 2 = a
  hb : gV xs 2 4 = b
  hn : gV xs 6 4 = n
  ht : s64 (gV xs 10 8) = t
  hm : gV xs 18 2 = (m : Int)
theorem hd_img {S : Sb} (h : S.Ok) : Hd (img S) S.a S.b S.n S.t S.L.length := by
  have h1 := h.a1; have h2 := h.b1; have h3 := h.n1; have h4 := h.t0; have h5 := h.t1; have h6 := h.few
  simp only [mxC] at h5
  have e : img S = leB (S.a : Int) 2 ++ (leB (S.b : Int) 4 ++ (leB (S.n : Int) 4 ++ (leB S.t 8 ++ (leB (S.L.length : Int) 2 ++ imBs S.L)))) := by simp [img, imH, List.append_assoc]
  have d2 : (img S).drop 2 = leB (S.b : Int) 4 ++ (leB (S.n : Int) 4 ++ (leB S.t 8 ++ (leB (S.L.length : Int) 2 ++ imBs S.L))) := by rw [e, drop_leB]
  have d6 : (img S).drop 6 = leB (S.n : Int) 4 ++ (leB S.t 8 ++ (leB (S.L.length : Int) 2 ++ imBs S.L)) := by
    rw [show 6 = 2 + 4 from rfl, ← List.drop_drop, d2, drop_leB]
  have d10 : (img S).drop 10 = leB S.t 8 ++ (leB (S.L.length : Int) 2 ++ imBs S.L) := by
    rw [show 10 = 6 + 4 from rfl, ← List.drop_drop, d6, drop_leB]
  have d18 : (img S).drop 18 = leB (S.L.length : Int) 2 ++ imBs S.L := by
    rw [show 18 = 10 + 8 from rfl, ← List.drop_drop, d10, drop_leB]
  refine ⟨?_, ?_, ?_, ?_, ?_⟩
  · unfold gV; rw [List.drop_zero, e, take_leB]; exact leV_leB' (by omega) (by omega)
  · unfold gV; rw [d2, take_leB]; exact leV_leB' (by omega) (by omega)
  · unfold gV; rw [d6, take_leB]; exact leV_leB' (by omega) (by omega)
  · unfold gV; rw [d10, take_leB, leV_leB' (by omega) (by omega)]; exact s64_id (by omega) (by omega)
  · unfold gV; rw [d18, take_leB]; exact leV_leB' (by omega) (by omega)
theorem bws_img {S : Sb} (h : S.Ok) : bws ((img S).drop 20) S.L.length = S.L.map Bg.bw := by
  have : (img S).drop 20 = imBs S.L := by
    unfold img
    conv => lhs; arg 1; rw [← imH_length S.a S.b S.n S.t S.L.length]
    exact List.drop_left
  rw [this]
  exact bws_imBs h.rng
/-- Bytes cut into two. -/
theorem cut2 (xs : List Int) (o k : Nat) : xs.drop o = (xs.drop o).take k ++ xs.drop (o + k) := by
  rw [← List.drop_drop]; exact (List.take_append_drop k _).symm
/-- Bookings' bytes. -/
theorem imBs_bws {xs : List Int} (hB : Byt xs) : ∀ (m : Nat), xs.length = 14 * m → (∀ j, j < m → 0 ≤ (bwAt xs j).u) → imBs ((bws xs m).map Bw.bg) = xs := by
  intro m
  induction m generalizing xs with
  | zero =>
    intro h _
    have h0 : xs = [] := List.length_eq_zero_iff.1 (by omega)
    rw [h0]; rfl
  | succ m ih =>
    intro hl hu
    have hb : Byt (xs.drop 14) := hB.drop 14
    have ih' := ih hb (by simp; omega) (fun j hj => by rw [bwAt_drop]; exact hu (j + 1) (by omega))
    have e : bws xs (m + 1) = bwAt xs 0 :: bws (xs.drop 14) m := by
      unfold bws
      rw [List.range_succ_eq_map, List.map_cons, List.map_map]
      congr 1
      exact List.map_congr_left (fun j _ => (bwAt_drop xs j).symm)
    have h1 := gV_bound hB 0 4; have h2 := gV_bound hB 4 2; have h3 := gV_bound hB 6 8
    have hz := hu 0 (by omega)
    simp only [bwAt, show 14 * 0 = 0 from rfl, show 0 + 6 = 6 from rfl] at hz
    have e1 : imB (bwAt xs 0).bg = xs.take 14 := by
      unfold imB bwAt Bw.bg
      simp only [show 14 * 0 = 0 from rfl, show 0 + 4 = 4 from rfl, show 0 + 6 = 6 from rfl]
      rw [s64_pos h3.1 (by omega) hz, Int.toNat_of_nonneg h1.1, Int.toNat_of_nonneg h2.1, leB_gV hB (by omega), leB_gV hB (by omega), leB_gV hB (by omega)]
      rw [List.drop_zero]
      conv => rhs; rw [show 14 = 4 + 10 from rfl, List.take_add, show 10 = 2 + 8 from rfl, List.take_add, List.drop_drop]
    rw [e, List.map_cons]
    show imB (bwAt xs 0).bg ++ imBs ((bws (xs.drop 14) m).map Bw.bg) = xs
    rw [e1, ih', List.take_append_drop]
theorem img_of {xs : List Int} (hB : Byt xs) {a b c n m : Nat} {t : Int} (hH : Hd xs a b n t m) (hl : xs.length = 20 + 14 * m) (ht : 0 ≤ t) (hu : ∀ j, j < m → 0 ≤ (bwAt (xs.drop 20) j).u) : img ⟨a, b, c, n, t, (bws (xs.drop 20) m).map Bw.bg⟩ = xs := by
  obtain ⟨h1, h2, h3, h4, h5⟩ := hH
  have b8 := gV_bound hB 10 8
  have e4 : gV xs 10 8 = t := by rw [← h4]; exact (s64_pos b8.1 (by omega) (by rw [h4]; exact ht)).symm
  unfold img imH
  simp only [List.length_map, bws_length]
  rw [imBs_bws (hB.drop 20) m (by simp; omega) hu, ← h1, ← h2, ← h3, ← e4, ← h5, leB_gV hB (by omega), leB_gV hB (by omega), leB_gV hB (by omega), leB_gV hB (by omega), leB_gV hB (by omega)]
  rw [List.append_assoc, List.append_assoc, List.append_assoc, List.append_assoc]
  rw [← cut2 xs 18 2, ← cut2 xs 10 8, ← cut2 xs 6 4, ← cut2 xs 2 4, ← cut2 xs 0 2, List.drop_zero]
end Go.Proofs.YtahjckcfcdnlmaaGreatDoor
/- What a Writer, a Reader and rows of bytes are in memory, and which steps keep them: plain lemmas, without the program. -/
namespace Go.Proofs.YtahjckcfcdnlmaaGreatDoor.Oc
open Go.RowKit

theorem hide {p : Prop} (h : p) : Hid p := h

/-- xs lies, byte by byte, where ao leads. -/
def At (w : World) (ao : Option Addr) (xs : List Int) : Prop := ∀ j u, xs[j]? = some u → ∃ a, ao = some a ∧ w.cell? (a.add j) = some (.int .u8 u)
/-- A slice's address behind '[n:]'. -/
def cutA (ao : Option Addr) (n cap : Nat) : Option Addr := if cap = n then ao else ao.map (fun x => x.add n)
/-- The slice does not lie in block g. -/
def Off (ao : Option Addr) (g : Nat) : Prop := ∀ a, ao = some a → a.block ≠ g

theorem Off.cut {ao : Option Addr} {g : Nat} (h : Off ao g) (n cap : Nat) : Off (cutA ao n cap) g := by
  intro a ha
  unfold cutA at ha
  split at ha
  · exact h a ha
  · cases ao with
    | none => simp at ha
    | some x =>
      simp at ha
      have := h x rfl
      rw [← ha]; unfold Addr.add; split <;> simp_all

theorem At.nil (w : World) (ao : Option Addr) : At w ao [] := fun j u h => by simp at h

theorem addr_add_block (a : Addr) (j : Nat) : (a.add j).block = a.block := by unfold Addr.add; split <;> rfl

theorem At.cut {w : World} {ao : Option Addr} {xs : List Int} (h : At w ao xs) (n cap : Nat) (hc : xs.length ≤ cap) : At w (cutA ao n cap) (xs.drop n) := by
  intro j u hu
  rw [List.getElem?_drop] at hu
  obtain ⟨a, ha, hcell⟩ := h _ _ hu
  unfold cutA
  split
  · rename_i e
    have := (List.getElem?_eq_some_iff.1 hu).1
    omega
  · refine ⟨a.add n, by simp [ha], ?_⟩
    rw [Addr.add_add]; exact hcell

theorem At.take {w : World} {ao : Option Addr} {xs : List Int} (h : At w ao xs) (n : Nat) : At w ao (xs.take n) := by
  intro j u hu
  rw [List.getElem?_take] at hu
  split at hu
  · exact h j u hu
  · cases hu

theorem At.kept {w w' : World} {ao : Option Addr} {xs : List Int} {row : Option Nat} (h : At w ao xs) (hg : w.grownBy w' row) (hr : ∀ a, ao = some a → some a.block ≠ row) : At w' ao xs := by
  intro j u hu
  obtain ⟨a, ha, hcell⟩ := h j u hu
  exact ⟨a, ha, hg.cell hcell (by rw [addr_add_block]; exact hr a ha)⟩

theorem Off.ne {ao : Option Addr} {g : Nat} (h : Off ao g) : ∀ a, ao = some a → some a.block ≠ some g := fun a ha e => h a ha (by simpa using e)

/-- Two steps, one behind the other. -/
theorem grown_then {a b c : World} {row row' : Option Nat} (h : a.grownBy b row) (k : b.grownBy c row') (hr : ∀ j, row' = some j → a.heap.size ≤ j ∨ row = some j) : a.grownBy c row :=
  ⟨k.os.trans h.os, k.tape.trans h.tape, k.output.trans h.output, Nat.le_trans h.size k.size, fun i hi hne =>
    (k.block i (Nat.lt_of_lt_of_le hi h.size) (fun e => by
      rcases hr i e.symm with h1 | h1
      · omega
      · exact hne h1.symm)).trans (h.block i hi hne)⟩
theorem grown_trans {a b c : World} {row : Option Nat} (h : a.grownBy b row) (k : b.grownBy c row) : a.grownBy c row := grown_then h k (fun _ e => Or.inr e)
theorem grown_refl (w : World) (row : Option Nat) : w.grownBy w row := ⟨rfl, rfl, rfl, Nat.le_refl _, fun _ _ _ => rfl⟩
theorem grown_drew (w : World) (row : Option Nat) : w.grownBy w.drew row := ⟨rfl, rfl, rfl, Nat.le_refl _, fun _ _ _ => rfl⟩
theorem grown_none {a b : World} (h : a.grownBy b none) (row : Option Nat) : a.grownBy b row := grown_then (grown_refl a row) h (fun _ e => by cases e)
theorem grown_setCell (w : World) (g j : Nat) (u : Value) : w.grownBy (w.setCell ⟨g, j, none⟩ u) (some g) :=
  ⟨rfl, rfl, rfl, by simp [World.setCell], fun k _ hne => Below.heap_setCell _ _ _ _ (by intro e; exact hne (by simp [e]))⟩
theorem grown_setRow (w : World) (g : Nat) (cs : Array Value) : w.grownBy (w.setRow g cs) (some g) :=
  ⟨rfl, rfl, rfl, by simp [World.setRow], fun k _ hne => setRow_other w g k cs (by intro e; exact hne (by simp [e]))⟩

/-- copy as one step of a region that draws its order: the row behind it, and that no other block has turned. -/
theorem step_copy_grown {P : Program} {ops : Array Oper} {o : Oper} {a : Act} {w : World} {K : Act → World → Prop} {Q : Exit → Act → World → Prop} {E : Prop} (hgd : o.guard = none) (d s : Operand) (dT sT : TypeId)
    (ho : o.op = .call { callee := .builtin .copy, args := #[d, s], argTypes := #[dT, sT] }) (elem : TypeId) (hu : P.underlying dT = some (.slice elem)) (hsz : (P.info? elem).map (·.size) = some 1)
    (dp sp : Option Addr) (dLen dCap sLen sCap : Nat) (hd : a.eval d = .slice dp dLen dCap) (hs : a.eval s = .slice sp sLen sCap)
    (g off : Nat) (cur : List Value) (t : TypeId) (hg : w.heap[g]? = some (.cells cur.toArray t (0, 0))) (cs : List Value) (hn : cs.length = Nat.min sLen dLen)
    (hpos : 0 < cs.length → dp = some ⟨g, off, none⟩ ∧ ∃ ad, sp = some ad ∧ ∀ j v, cs[j]? = some v → w.cell? (ad.add j) = some v)
    (hfit : off + cs.length ≤ cur.length) (h1 : ∀ v ∈ cs, v.oneCell' = true)
    (h : ∀ w', Hid (w'.heap[g]? = some (.cells (splice cur off cs).toArray t (0, 0))) → w.grownBy w' (some g) → K (a.put o.dst (goInt cs.length)) w') :
    if Region.wanted o (yielded ops a.tmps) = true then Oper.wp P o a w K Q else E := by
  have hw : Region.wanted o (yielded ops a.tmps) = true := by simp [Region.wanted, hgd]
  rw [if_pos hw]
  by_cases h0 : cs.length = 0
  · obtain rfl : cs = [] := List.eq_nil_of_length_eq_zero h0
    have hrun := run_copy_none (P := P) w dT sT o.type elem dp sp dLen dCap sLen sCap hu hsz (by simpa using hn.symm)
    unfold Oper.wp
    simp [execOp, ho, resolve, invoke, builtin, hd, hs, hrun, Result.andThen]
    exact h w (show _ = _ by simpa [splice] using hg) (grown_refl w _)
  · obtain ⟨rfl, ad, rfl, hsrc⟩ := hpos (by omega)
    have hrun := run_copy_row (P := P) w dT sT o.type elem g off dLen dCap ad sLen sCap cur.toArray t cs hu hsz hg hn hsrc (by simpa using hfit) h1
    unfold Oper.wp
    simp [execOp, ho, resolve, invoke, builtin, hd, hs, hrun, Result.andThen]
    exact h _ (show _ = _ by simpa [splice] using setRow_heap w g _ _ t _ hg) (grown_setRow w g _)

/-- What lies in n cells from offset o of block b on; that they are there; an address' block and offset. -/
def rangeOf (w : World) (b o n : Nat) : List Value := (List.range n).map fun j => (w.cell? ⟨b, o + j, none⟩).getD undef
def rangeOk (w : World) (b o n : Nat) : Prop := ∀ j, j < n → (w.cell? ⟨b, o + j, none⟩).isSome = true
def blkOf : Value → Nat | .pointer (some a) => a.block | _ => 0
def offOf : Value → Nat | .pointer (some a) => a.off | _ => 0
def isPtr : Value → Bool | .pointer (some ⟨_, _, none⟩) => true | _ => false
theorem blkOf_ptr (b o : Nat) : blkOf (.pointer (some ⟨b, o, none⟩)) = b := rfl
theorem offOf_ptr (b o : Nat) : offOf (.pointer (some ⟨b, o, none⟩)) = o := rfl
theorem isPtr_ptr (b o : Nat) : isPtr (.pointer (some ⟨b, o, none⟩)) = true := rfl
theorem ptr_of {v : Value} (h : isPtr v = true) : v = .pointer (some ⟨blkOf v, offOf v, none⟩) := by
  unfold isPtr at h; split at h
  · rfl
  · cases h
theorem rangeOk.at {w : World} {b o n : Nat} (h : rangeOk w b o n) : w.rangeAt b o (rangeOf w b o n) := by
  intro j v hv
  unfold rangeOf at hv
  rw [List.getElem?_map] at hv
  cases hj : (List.range n)[j]? with
  | none => simp [hj] at hv
  | some k =>
    have hk := List.getElem?_eq_some_iff.1 hj
    obtain ⟨hlt, he⟩ := hk
    simp at he hlt
    subst he
    simp [hj] at hv
    have := h j hlt
    cases hc : w.cell? ⟨b, o + j, none⟩ with
    | none => simp [hc] at this
    | some x => simp [hc] at hv; rw [hv]
theorem rangeOf_length (w : World) (b o n : Nat) : (rangeOf w b o n).length = n := by simp [rangeOf]
theorem rangeOf_eq {w : World} {b o n : Nat} {l : List Value} (h : w.rangeAt b o l) (hl : l.length = n) : rangeOf w b o n = l := by
  apply List.ext_getElem?
  intro j
  unfold rangeOf
  rw [List.getElem?_map]
  by_cases hj : j < n
  · have hjl : j < l.length := by omega
    rw [List.getElem?_eq_getElem hjl, List.getElem?_range hj]
    simp [h j _ (List.getElem?_eq_getElem hjl)]
  · rw [List.getElem?_eq_none (by simp; omega), List.getElem?_eq_none (by omega)]; rfl
theorem rangeOk_of {w : World} {b o n : Nat} {l : List Value} (h : w.rangeAt b o l) (hl : l.length = n) : rangeOk w b o n := by
  intro j hj
  have hjl : j < l.length := by omega
  rw [h j _ (List.getElem?_eq_getElem hjl)]; rfl
/-- A load of a long array, as an equation. -/
theorem wp_load_range {P : Program} {op : Oper} {a : Act} {w : World} {K : Act → World → Prop} {Q : Exit → Act → World → Prop} (ty : TypeId) (x : Operand) (ho : op.op = .load ty x) (d : TypeDesc) (n : Nat)
    (hu : P.underlying ty = some d) (hd : d.isRow = true) (hi : (P.info? ty).map (·.size) = some n) (hx : isPtr (a.eval x) = true) (hr : rangeOk w (blkOf (a.eval x)) (offOf (a.eval x)) n) :
    op.wp P a w K Q = K (a.put op.dst (.agg (rangeOf w (blkOf (a.eval x)) (offOf (a.eval x)) n).toArray)) w := by
  unfold Oper.wp execOp
  rw [ho]
  have hp := ptr_of hx
  have hl := run_loadVar_mid (P := P) w (blkOf (a.eval x)) (offOf (a.eval x)) ty _ d hr.at hu hd (by rw [rangeOf_length]; exact hi)
  simp only [Instr.loadAt]
  rw [hp]
  simp only [Instr.sureAddr, Sem.run_bind, Sem.run_pure, Result.andThen_ok, blkOf_ptr, offOf_ptr, hl]
  rfl

/-- The cells of a Writer: what is sealed, the open bytes, the length. -/
def wrow (v : Value) (op : List Int) (L : Nat) : List Value := v :: (op.map (Value.int .u8) ++ [.int .i64 (L : Int)])
theorem wrow_length (v : Value) (op : List Int) (L : Nat) : (wrow v op L).length = op.length + 2 := by simp [wrow]
theorem wrow_zero (v : Value) (op : List Int) (L : Nat) : (wrow v op L)[0]? = some v := rfl
theorem wrow_last (v : Value) (op : List Int) (L : Nat) (h : op.length = 64) : (wrow v op L)[65]? = some (.int .i64 (L : Int)) := by
  simp [wrow, h]
theorem wrow_open (v : Value) (op : List Int) (L j : Nat) (h : j < op.length) : (wrow v op L)[1 + j]? = some (.int .u8 op[j]) := by
  rw [Nat.add_comm]; simp [wrow, List.getElem?_append, h]
theorem wrow_set_last (v : Value) (op : List Int) (L M : Nat) (h : op.length = 64) : (wrow v op L).set 65 (.int .i64 (M : Int)) = wrow v op M := by
  simp [wrow, h]
theorem wrow_set_zero (v v' : Value) (op : List Int) (L : Nat) : (wrow v op L).set 0 v' = wrow v' op L := rfl
theorem wrow_splice (v : Value) (op xs : List Int) (L r : Nat) (h : r + xs.length ≤ op.length) : splice (wrow v op L) (1 + r) (xs.map (Value.int .u8)) = wrow v (splice op r xs) L := by
  have e0 : 1 + r = r + 1 := by omega
  have e : r + 1 + xs.length = (r + xs.length) + 1 := by omega
  have h2 : r + xs.length - op.length = 0 := by omega
  have h3 : r - op.length = 0 := by omega
  simp only [splice, wrow, List.length_map, e0, e]
  simp [List.take_append, List.drop_append, h2, h3]

theorem cell_row {w : World} {g : Nat} {l : List Value} {t : TypeId} {fr : Nat × Nat} (h : w.heap[g]? = some (.cells l.toArray t fr)) (j : Nat) : w.cell? ⟨g, j, none⟩ = l[j]? := by
  rw [cell_of_row w g j l.toArray t fr h]; simp
theorem free_row {w : World} {g : Nat} {c : Array Value} {t : TypeId} (h : w.heap[g]? = some (.cells c t (0, 0))) (j : Nat) : w.frozen? ⟨g, j, none⟩ = false := by
  simp [World.frozen?, h]
theorem row_setCell {w : World} {g : Nat} {l : List Value} {t : TypeId} {fr : Nat × Nat} (h : w.heap[g]? = some (.cells l.toArray t fr)) (j : Nat) (u : Value) : (w.setCell ⟨g, j, none⟩ u).heap[g]? = some (.cells (l.set j u).toArray t fr) := by
  simp [World.setCell, Array.getElem?_modify, h]
theorem row_lt {w : World} {g : Nat} {o : Obj} (h : w.heap[g]? = some o) : g < w.heap.size := (Array.getElem?_eq_some_iff.1 h).1

theorem fold_set (l : List Value) : ∀ (k : Nat) (A : Array Value), 1 + k + l.length ≤ A.size →
    (List.foldl (fun (cs : Array Value) (x : Value × Nat) => cs.setIfInBounds (1 + x.snd) x.fst) A (l.zipIdx k)).toList = A.toList.take (1 + k) ++ l ++ A.toList.drop (1 + k + l.length) := by
  induction l with
  | nil => intro k A _; simp
  | cons y l ih =>
    intro k A h
    simp only [List.length_cons] at h
    rw [List.zipIdx_cons, List.foldl_cons, ih (k + 1) _ (by simp; omega)]
    have hk : 1 + k < A.toList.length := by simp; omega
    have e1 : (A.setIfInBounds (1 + k) y).toList = A.toList.set (1 + k) y := by simp
    have e2 : 1 + (k + 1) = 1 + k + 1 := by omega
    have e3 : 1 + k + 1 + l.length = 1 + k + (l.length + 1) := by omega
    rw [e1, e2, List.take_succ_eq_append_getElem (by simpa using hk), List.length_cons, e3]
    simp [List.take_set_of_le, List.drop_set]

theorem fold_block (z : Array Value) (p : Value) (l : List Value) (hz : z.size = 65) (hl : l.length = 64) :
    List.foldl (fun (cs : Array Value) (x : Value × Nat) => cs.setIfInBounds (1 + x.snd) x.fst) (z.setIfInBounds 0 p) l.zipIdx = (p :: l).toArray := by
  apply Array.ext'
  rw [show l.zipIdx = l.zipIdx 0 from rfl, fold_set l 0 _ (by simp; omega)]
  have h1 : z.toList.length = 65 := by simpa using hz
  obtain ⟨a, t, ht⟩ : ∃ a t, z.toList = a :: t := by
    cases h : z.toList with
    | nil => rw [h] at h1; cases h1
    | cons a t => exact ⟨a, t, rfl⟩
  have ht2 : t.length = 64 := by rw [ht] at h1; simpa using h1
  have e1 : (z.setIfInBounds 0 p).toList = p :: t := by simp [ht]
  rw [e1, hl]
  simp [ht2]

/-- The sealed blocks, the newest first. -/
def Chain (w : World) : Value → List (List Int) → Prop
  | v, [] => v = .pointer none
  | v, c :: cs => ∃ g v', v = .pointer (some ⟨g, 0, none⟩) ∧ w.heap[g]? = some (.cells (v' :: c.map (Value.int .u8)).toArray 129 (0, 0)) ∧ c.length = 64 ∧ Chain w v' cs

/-- The row that may be written is no sealed block. -/
def NoBlock (w : World) (row : Option Nat) : Prop := ∀ k c fr, row = some k → w.heap[k]? ≠ some (.cells c 129 fr)

theorem Chain.kept {w w' : World} {row : Option Nat} (hg : w.grownBy w' row) (hr : NoBlock w row) : ∀ (cs : List (List Int)) (v : Value), Chain w v cs → Chain w' v cs
  | [], _, h => h
  | _ :: cs, _, ⟨g, v', hv, hb, hl, hc⟩ => ⟨g, v', hv, (hg.block g (row_lt hb) (fun e => hr g _ _ e.symm hb)).trans hb, hl, Chain.kept hg hr cs v' hc⟩

theorem Chain.ptr {w : World} {v : Value} {cs : List (List Int)} (h : Chain w v cs) : ∃ u, v = .pointer u := by
  cases cs with
  | nil => exact ⟨_, h⟩
  | cons c cs => obtain ⟨g, v', hv, _⟩ := h; exact ⟨_, hv⟩

theorem NoBlock.none (w : World) : NoBlock w none := fun _ _ _ e => by cases e
theorem NoBlock.of {w : World} {g : Nat} {c : Array Value} {t : TypeId} {fr : Nat × Nat} (h : w.heap[g]? = some (.cells c t fr)) (ht : t ≠ 129) : NoBlock w (some g) := by
  intro k c' fr' e h'
  cases e
  rw [h] at h'
  simp at h'
  exact ht h'.2.1

/-- The Writer at the head of block g holds the bytes bs. -/
def WrAt (w : World) (g : Nat) (bs : List Int) : Prop :=
  ∃ v cs op, w.heap[g]? = some (.cells (wrow v op bs.length).toArray 91 (0, 0)) ∧ op.length = 64 ∧ Chain w v cs ∧ bs = cs.reverse.flatten ++ op.take (bs.length % 64)

theorem WrAt.kept {w w' : World} {g : Nat} {bs : List Int} {row : Option Nat} (h : WrAt w g bs) (hg : w.grownBy w' row) (hne : row ≠ some g) (hr : NoBlock w row) : WrAt w' g bs := by
  obtain ⟨v, cs, op, hb, hl, hc, he⟩ := h
  exact ⟨v, cs, op, (hg.block g (row_lt hb) (fun e => hne e.symm)).trans hb, hl, Chain.kept hg hr cs v hc, he⟩
theorem WrAt.lt {w : World} {g : Nat} {bs : List Int} (h : WrAt w g bs) : g < w.heap.size := by obtain ⟨v, cs, op, hb, _⟩ := h; exact row_lt hb
theorem WrAt.noBlock {w : World} {g : Nat} {bs : List Int} (h : WrAt w g bs) : NoBlock w (some g) := by obtain ⟨v, cs, op, hb, _⟩ := h; exact NoBlock.of hb (by decide)

theorem take_splice {α : Type} (op X : List α) (r : Nat) (h : r + X.length ≤ op.length) : (splice op r X).take (r + X.length) = op.take r ++ X := by
  have hr : (op.take r).length = r := by simp; omega
  rw [splice, ← List.append_assoc, List.take_append_of_le_length (by simp; omega)]
  exact List.take_of_length_le (by simp; omega)

/-- A round that leaves the open block open. -/
theorem wr_more {w' : World} {g M : Nat} {bs X op : List Int} {v : Value} {cs : List (List Int)} (hl : op.length = 64) (he : bs = cs.reverse.flatten ++ op.take (bs.length % 64)) (hc : Chain w' v cs)
    (hlt : bs.length % 64 + X.length < 64) (hb : w'.heap[g]? = some (.cells (wrow v (splice op (bs.length % 64) X) M).toArray 91 (0, 0))) (hM : M = bs.length + X.length) : WrAt w' g (bs ++ X) := by
  subst hM
  refine ⟨v, cs, splice op (bs.length % 64) X, by simpa using hb, by rw [length_splice _ _ _ (by omega)]; exact hl, hc, ?_⟩
  have e : (bs ++ X).length % 64 = bs.length % 64 + X.length := by simp; omega
  rw [e, take_splice _ _ _ (by omega), ← List.append_assoc, ← he]

/-- A round that seals it. -/
theorem wr_seal {w' : World} {g h M : Nat} {bs X op : List Int} {v : Value} {cs : List (List Int)} (hl : op.length = 64) (he : bs = cs.reverse.flatten ++ op.take (bs.length % 64)) (hc : Chain w' v cs)
    (hlt : bs.length % 64 + X.length = 64) (hb : w'.heap[g]? = some (.cells (wrow (.pointer (some ⟨h, 0, none⟩)) (splice op (bs.length % 64) X) M).toArray 91 (0, 0)))
    (hs : w'.heap[h]? = some (.cells (v :: (splice op (bs.length % 64) X).map (Value.int .u8)).toArray 129 (0, 0))) (hM : M = bs.length + X.length) : WrAt w' g (bs ++ X) := by
  subst hM
  have hl' : (splice op (bs.length % 64) X).length = 64 := by rw [length_splice _ _ _ (by omega)]; exact hl
  refine ⟨_, splice op (bs.length % 64) X :: cs, splice op (bs.length % 64) X, by simpa using hb, hl', ⟨h, v, rfl, hs, hl', hc⟩, ?_⟩
  have e : (bs ++ X).length % 64 = 0 := by simp; omega
  have e2 : splice op (bs.length % 64) X = op.take (bs.length % 64) ++ X := by
    rw [← take_splice _ _ _ (by omega)]
    exact (List.take_of_length_le (by rw [hl']; omega)).symm
  rw [e, e2]
  simp only [List.reverse_cons, List.flatten_append, List.flatten_cons, List.flatten_nil, List.take_zero, List.append_nil]
  rw [← List.append_assoc, ← he]

/-- A round's end: what is still to be put, what has been. -/
theorem round_end {w wr w4 : World} {g n m gk q cap cap' : Nat} {ao' : Option Addr} {xs ys bs bs' X : List Int} (hkm : gk + m = n) (hys : ys = xs.drop m) (hbs' : bs' = bs ++ xs.take m) (hX : X = ys.take q) (hq1 : q ≤ gk)
    (hyl : ys.length = gk) (hkc : gk ≤ cap') (hcc : cap' ≤ cap) (hat : At wr ao' ys) (ho : Off ao' g) (hgr : w.grownBy wr (some g)) (hg4 : wr.grownBy w4 (some g)) (hwr : WrAt w4 g (bs' ++ X)) :
    ∃ m' ao1 cap1, gk - q + m' = n ∧ Value.slice (cutA ao' q cap') (gk - q) (cap' - q) = Value.slice ao1 (gk - q) cap1 ∧ gk - q ≤ cap1 ∧ cap1 ≤ cap ∧ Off ao1 g ∧ At w4 ao1 (xs.drop m') ∧ WrAt w4 g (bs ++ xs.take m') ∧ w.grownBy w4 (some g) := by
  refine ⟨m + q, cutA ao' q cap', cap' - q, by omega, rfl, by omega, by omega, ho.cut q cap', ?_, ?_, grown_trans hgr hg4⟩
  · have h1 := (hat.kept hg4 ho.ne).cut q cap' (by omega)
    rw [hys, List.drop_drop] at h1
    exact h1
  · rw [hbs', hX, hys] at hwr
    rw [List.take_add, ← List.append_assoc]
    exact hwr

/-- The world behind a sealing: the new block lies there, the Writer leads to it. -/
theorem seal_world {w3 : World} {g s : Nat} {u : Option Addr} {op : List Int} {L : Nat} {F : Array Value} (h3 : w3.heap[g]? = some (.cells (wrow (.pointer u) op L).toArray 91 (0, 0))) (hs : w3.heap.size = s)
    (hF : F = (.pointer u :: op.map (Value.int .u8)).toArray) :
    (((w3.alloc (.cells F 129)).setCell ⟨g, 0, none⟩ (.pointer (some ⟨s, 0, none⟩))).drew).heap[g]? = some (.cells (wrow (.pointer (some ⟨s, 0, none⟩)) op L).toArray 91 (0, 0)) ∧
    (((w3.alloc (.cells F 129)).setCell ⟨g, 0, none⟩ (.pointer (some ⟨s, 0, none⟩))).drew).heap[s]? = some (.cells (.pointer u :: op.map (Value.int .u8)).toArray 129 (0, 0)) ∧
    w3.grownBy (((w3.alloc (.cells F 129)).setCell ⟨g, 0, none⟩ (.pointer (some ⟨s, 0, none⟩))).drew) (some g) := by
  have hlt := row_lt h3
  have h4 : (w3.alloc (.cells F 129)).heap[g]? = some (.cells (wrow (.pointer u) op L).toArray 91 (0, 0)) := (Below.heap_alloc _ _ _ hlt).trans h3
  refine ⟨?_, ?_, ?_⟩
  · have := row_setCell h4 0 (.pointer (some ⟨s, 0, none⟩))
    rw [wrow_set_zero] at this
    exact this
  · show ((w3.alloc (.cells F 129)).setCell ⟨g, 0, none⟩ (.pointer (some ⟨s, 0, none⟩))).heap[s]? = _
    rw [Below.heap_setCell _ _ _ _ (by simp; omega), ← hs, ← hF]
    exact heap_alloc_new w3 _
  · exact grown_trans (grown_trans (World.grownBy_alloc w3 _ _) (grown_setCell _ g 0 _)) (grown_drew _ _)

end Go.Proofs.YtahjckcfcdnlmaaGreatDoor.Oc
/- The contract of a Writer's inner function that puts a row of bytes behind what is there. -/
namespace Go.Proofs.YtahjckcfcdnlmaaGreatDoor.Oc
open Go.RowKit
attribute [local go_sem ↓] Go.wp_at_zero Go.wp_at_succ
theorem Tryz.size5 : (Tryz.prog.info? 5).map (·.size) = some 1 := by kernel_rfl
theorem Tryz.size89 : (Tryz.prog.info? 89).map (·.size) = some 64 := by kernel_rfl
theorem sliceAt_open (g r : Nat) (h : r < 64) (w : World) : (Instr.sliceAt 89 (.pointer (some ⟨g, 1, none⟩)) (some (.int .i64 (r : Int))) none none).run Tryz.prog w = .ok (.slice (some ⟨g, 1 + r, none⟩) (64 - r) (64 - r)) w := by
  have hc : r ≤ 64 := by omega
  have hne : ¬ (64 = r) := by omega
  simp [Instr.sliceAt, Instr.sureAddr, run_underlying Tryz.underlying89, Instr.sliceBounds, Instr.sliceBound, asIntOf, hc, hne, Addr.add_mid]
theorem slice_from (ao : Option Addr) (len cap n : Nat) (h : n ≤ len) (w : World) : (Instr.slice 24 (.slice ao len cap) (some (.int .i64 (n : Int))) none none).run Tryz.prog w = .ok (.slice (cutA ao n cap) (len - n) (cap - n)) w := by
  simp [Instr.slice, run_underlying Tryz.underlying24, Instr.sliceBounds, Instr.sliceBound, asIntOf, h, cutA]

theorem zero75 : Tryz.zeroCells129.size = 65 := by kernel_rfl
theorem wp_load51 {x : Operand} {dst : Option Tmp} {ty : TypeId} {pos : String} {A : Array Edge} {gd : Option (Nat × Bool)} {a : Act} {w : World} {K : Act → World → Prop} {Q : Exit → Act → World → Prop} (hx : isPtr (a.eval x) = true) (hr : rangeOk w (blkOf (a.eval x)) (offOf (a.eval x)) 64) :
    Oper.wp Tryz.prog { dst := dst, op := .load 89 x, type := ty, pos := pos, after := A, guard := gd } a w K Q = K (a.put dst (.agg (rangeOf w (blkOf (a.eval x)) (offOf (a.eval x)) 64).toArray)) w :=
  wp_load_range 89 x rfl _ 64 Tryz.underlying89 rfl Tryz.size89 hx hr
attribute [local go_sem ↓] wp_load51
attribute [local go_sem] blkOf_ptr offOf_ptr isPtr_ptr

set_option maxHeartbeats 1000000 in
set_option maxRecDepth 100000 in
theorem behind_any (g n : Nat) (bs xs : List Int) (ao : Option Addr) (cap : Nat) (w : World) (hW : WrAt w g bs) (hn : xs.length = n) (hs : At w ao xs) (hoff : Off ao g) (hnc : n ≤ cap) (hcm : cap ≤ maxLen) (hL : bs.length + n ≤ 4611686018427387904) :
    Calls Tryz.prog 116 #[.pointer (some ⟨g, 0, none⟩), .slice ao n cap] w fun e w' => e = .returned (.tuple #[]) ∧ WrAt w' g (bs ++ xs) ∧ w.grownBy w' (some g) := by
  unfold maxLen at hcm
  go_enter Tryz.func116, Tryz.ntmps116
  go_wp2
  go_loopg [1] n (fun k row wr => ∃ m ao' cap', k + m = n ∧ row = .slice ao' k cap' ∧ k ≤ cap' ∧ cap' ≤ cap ∧ Off ao' g ∧ At wr ao' (xs.drop m) ∧ WrAt wr g (bs ++ xs.take m) ∧ w.grownBy wr (some g))
  case atStart => exact ⟨0, ao, cap, by omega, rfl, hnc, Nat.le_refl _, hoff, by simpa using hs, by simpa using hW, grown_refl _ _⟩
  case round =>
    obtain ⟨m, ao', cap', hkm, rfl, hkc, hcc, ho, hat, hwr, hgr⟩ := hrel
    clear hW hs hoff
    by_cases hk : 0 < gk
    · obtain ⟨ys, hys⟩ : ∃ ys, ys = xs.drop m := ⟨_, rfl⟩
      obtain ⟨bs', hbs'⟩ : ∃ b, b = bs ++ xs.take m := ⟨_, rfl⟩
      have hyl : ys.length = gk := by rw [hys]; simp; omega
      have hbl : bs'.length + gk ≤ 4611686018427387904 := by rw [hbs']; simp; omega
      rw [← hys] at hat
      rw [← hbs'] at hwr
      have HY : Hid (ys = xs.drop m ∧ bs' = bs ++ xs.take m) := ⟨hys, hbs'⟩
      clear hys hbs'
      obtain ⟨v, cs, op, hb, hl, hc, he⟩ := hwr
      obtain ⟨u, rfl⟩ := hc.ptr
      obtain ⟨L, hLe⟩ : ∃ L, L = bs'.length := ⟨_, rfl⟩
      obtain ⟨r, hrL⟩ : ∃ r, r = L % 64 := ⟨_, rfl⟩
      have hr64 : r < 64 := by omega
      have hr1 : (L : Int) % 64 = (r : Int) := by rw [hrL]; simp
      have hr2 : (L : Int).tmod 64 = (r : Int) := by rw [hrL]; simp [Int.tmod_eq_emod_of_nonneg]
      have hLm : (L : Int) ≤ 4611686018427387904 := by omega
      obtain ⟨q, hq⟩ : ∃ q, q = Nat.min gk (64 - r) := ⟨_, rfl⟩
      have hq1 : q ≤ gk := by rw [hq]; exact Nat.min_le_left _ _
      have hq2 : q ≤ 64 - r := by rw [hq]; exact Nat.min_le_right _ _
      have hq0 : 0 < q := by rw [hq]; simp only [Nat.min_def]; split <;> omega
      obtain ⟨X, hX⟩ : ∃ X, X = ys.take q := ⟨_, rfl⟩
      have hXl : X.length = q := by rw [hX]; simp; omega
      have hXa : At wr ao' X := by rw [hX]; exact hat.take q
      obtain ⟨XV, hXV⟩ : ∃ XV, XV = X.map (Value.int .u8) := ⟨_, rfl⟩
      have hXVl : XV.length = q := by rw [hXV]; simp [hXl]
      have hXp : 0 < XV.length → ∃ ad, ao' = some ad ∧ ∀ j u, XV[j]? = some u → wr.drew.cell? (ad.add j) = some u := by
        intro hp
        have hx0 : 0 < X.length := by omega
        obtain ⟨a, ha, _⟩ := hXa 0 X[0] (by simp [hx0])
        refine ⟨a, ha, fun j u hu => ?_⟩
        rw [hXV, List.getElem?_map] at hu
        cases hj : X[j]? with
        | none => simp [hj] at hu
        | some x =>
          simp [hj] at hu
          obtain ⟨a', ha', hc'⟩ := hXa j x hj
          rw [ha] at ha'; cases ha'
          rw [← hu]; simpa using hc'
      have hX1 : ∀ u ∈ XV, u.oneCell' = true := by
        intro u hu; rw [hXV] at hu; simp at hu; obtain ⟨x, _, rfl⟩ := hu; rfl
      have hmin : XV.length = Nat.min gk (64 - r) := by rw [hXVl, hq]
      have hfit : 1 + r + XV.length ≤ (wrow (.pointer u) op L).length := by rw [wrow_length, hl, hXVl]; omega
      have hbD : wr.drew.heap[g]? = some (.cells (wrow (.pointer u) op L).toArray 91 (0, 0)) := by rw [hLe]; exact hb
      have c65 : wr.cell? ⟨g, 65, none⟩ = some (.int .i64 L) := by rw [cell_row hb, wrow_last _ _ _ hl, hLe]
      have hsl : ∀ w, (Instr.sliceAt 89 (.pointer (some ⟨g, 1, none⟩)) (some (.int .i64 (r : Int))) none none).run Tryz.prog w = .ok (.slice (some ⟨g, 1 + r, none⟩) (64 - r) (64 - r)) w := sliceAt_open g r hr64
      have hcut : ∀ w, (Instr.slice 24 (.slice ao' gk cap') (some (.int .i64 (q : Int))) none none).run Tryz.prog w = .ok (.slice (cutA ao' q cap') (gk - q) (cap' - q)) w := slice_from ao' gk cap' q hq1
      have HB : Hid (L = bs'.length ∧ r = L % 64 ∧ q = Nat.min gk (64 - r) ∧ X = ys.take q ∧ XV = X.map (Value.int .u8) ∧ X.length = q ∧ bs' = cs.reverse.flatten ++ op.take (bs'.length % 64)) := ⟨hLe, hrL, hq, hX, hXV, hXl, he⟩
      have HXl : Hid (XV.length = q) := hXVl
      have HK : Hid (∀ w2 : World, w2.heap[g]? = some (.cells (splice (wrow (.pointer u) op L) (1 + r) XV).toArray 91 (0, 0)) → w2.heap[g]? = some (.cells (wrow (.pointer u) (splice op r X) L).toArray 91 (0, 0)) ∧ w2.cell? ⟨g, 65, none⟩ = some (.int .i64 L) ∧ w2.frozen? ⟨g, 65, none⟩ = false) := by
        intro w2 h2
        rw [hXV, wrow_splice _ _ _ _ _ (by omega)] at h2
        exact ⟨h2, by rw [cell_row h2, wrow_last _ _ _ (by rw [length_splice _ _ _ (by omega)]; exact hl)], free_row h2 _⟩
      have Hmin : Hid (XV.length = Nat.min gk (64 - r)) := hmin
      have Hfit : Hid (1 + r + XV.length ≤ (wrow (.pointer u) op L).length) := hfit
      have HbD : Hid (wr.drew.heap[g]? = some (.cells (wrow (.pointer u) op L).toArray 91 (0, 0))) := hbD
      have HXp : Hid (0 < XV.length → ∃ ad, ao' = some ad ∧ ∀ j u, XV[j]? = some u → wr.drew.cell? (ad.add j) = some u) := hXp
      have HX1 : Hid (∀ u ∈ XV, u.oneCell' = true) := hX1
      have Hc : Hid (Chain wr (.pointer u) cs) := hc
      have Hat : Hid (At wr ao' ys ∧ Off ao' g ∧ w.grownBy wr (some g) ∧ ys.length = gk ∧ op.length = 64) := ⟨hat, ho, hgr, hyl, hl⟩
      have Hb : Hid (wr.heap[g]? = some (.cells (wrow (.pointer u) op bs'.length).toArray 91 (0, 0))) := hb
      have hk' : (0 : Int) < (gk : Int) := by omega
      clear hLe hrL hq hX hXV hXl he hXVl hmin hfit hbD hXp hX1 hc hat ho hgr hyl hXa hl hb hn
      go_wp2
      go_region_held3 (fun w' => w'.cell? ⟨g, 65, none⟩ = some (.int .i64 L)) (go_keep) ((refine step_copy_grown rfl (.tmp 18) (.tmp 19) 24 24 rfl 5 Tryz.underlying24 Tryz.size5 _ _ _ _ _ _ (by rfl) (by rfl) g (1 + r) (wrow (.pointer u) op L) 91 HbD.out XV Hmin.out (fun hp => ⟨rfl, HXp.out hp⟩) Hfit.out HX1.out ?_; rw [HXl.out]; intro w2 H2 hg2; obtain ⟨H2', c65', f65⟩ := HK.out w2 H2.out; clear H2; have H2 := hide H2'; clear H2'))
      by_cases hS : r + q = 64
      · have hM : ((L : Int) + (q : Int)) % 64 = 0 := by omega
        obtain ⟨OV, hOV⟩ : ∃ OV, OV = (splice op r X).map (Value.int .u8) := ⟨_, rfl⟩
        have hOVl : OV.length = 64 := by obtain ⟨_, _, _, _, _, hx, _⟩ := HB.out; obtain ⟨_, _, _, _, ho⟩ := Hat.out; rw [hOV, List.length_map, length_splice _ _ _ (by omega)]; exact ho
        have hOV1 : ∀ u ∈ OV, u.oneCell' = true := by
          intro u hu; rw [hOV] at hu; simp at hu; obtain ⟨x, _, rfl⟩ := hu; rfl
        have h3 : (w2.setCell ⟨g, 65, none⟩ (.int .i64 ((L : Int) + (q : Int)))).heap[g]? = some (.cells (wrow (.pointer u) (splice op r X) (L + q)).toArray 91 (0, 0)) := by
          rw [row_setCell H2.out, ← Int.natCast_add, wrow_set_last]
          rw [hOV] at hOVl; simpa using hOVl
        have d0 : (w2.setCell ⟨g, 65, none⟩ (.int .i64 ((L : Int) + (q : Int)))).cell? ⟨g, 0, none⟩ = some (.pointer u) := by rw [cell_row h3, wrow_zero]
        have f0 : (w2.setCell ⟨g, 65, none⟩ (.int .i64 ((L : Int) + (q : Int)))).frozen? ⟨g, 0, none⟩ = false := free_row h3 _
        have rng : (w2.setCell ⟨g, 65, none⟩ (.int .i64 ((L : Int) + (q : Int)))).rangeAt g 1 OV := by
          intro j y hy
          rw [cell_row h3]
          rw [hOV, List.getElem?_map] at hy
          cases hj : (splice op r X)[j]? with
          | none => simp [hj] at hy
          | some x =>
            simp [hj] at hy
            obtain ⟨hlt, hx⟩ := List.getElem?_eq_some_iff.1 hj
            rw [wrow_open _ _ _ _ hlt, ← hy, hx]
        have k0 : ∀ o, ((w2.setCell ⟨g, 65, none⟩ (.int .i64 ((L : Int) + (q : Int)))).alloc o).cell? ⟨g, 0, none⟩ = some (.pointer u) := fun o => by
          rw [World.cell?_alloc_lt _ _ _ (row_lt h3)]; exact d0
        have kf : ∀ o, ((w2.setCell ⟨g, 65, none⟩ (.int .i64 ((L : Int) + (q : Int)))).alloc o).frozen? ⟨g, 0, none⟩ = false := fun o => by
          rw [World.frozen?_alloc_old _ _ _ (Nat.ne_of_lt (row_lt h3))]; exact f0
        have HOV : Hid (OV = (splice op r X).map (Value.int .u8)) := hOV
        have H3 := hide h3
        clear hOV h3
        go_wp2
        have rok : rangeOk (w2.setCell ⟨g, 65, none⟩ (.int .i64 ((L : Int) + (q : Int)))).drew g 1 64 := rangeOk_of (w := (w2.setCell ⟨g, 65, none⟩ (.int .i64 ((L : Int) + (q : Int)))).drew) rng hOVl
        have rof : rangeOf (w2.setCell ⟨g, 65, none⟩ (.int .i64 ((L : Int) + (q : Int)))).drew g 1 64 = OV := rangeOf_eq (w := (w2.setCell ⟨g, 65, none⟩ (.int .i64 ((L : Int) + (q : Int)))).drew) rng hOVl
        clear rng
        go_region_law (fail)
        all_goals
          go_wp2
          go_roundg (gk - q)
          case measure => omega
          case rel =>
            obtain ⟨hys, hbs'⟩ := HY.out
            obtain ⟨hLe, hrL, hq, hX, hXV, hXl, he⟩ := HB.out
            obtain ⟨hat, ho, hgr, hyl, hl⟩ := Hat.out
            subst hLe; subst hrL
            have hF := fold_block Tryz.zeroCells129 (.pointer u) OV zero75 hOVl
            obtain ⟨e1, e2, e3⟩ := seal_world H3.out (s := w2.heap.size) (by simp [World.setCell]) (hF.trans (by rw [HOV.out]))
            have hg4 := grown_trans (grown_trans (grown_trans (grown_drew wr (some g)) hg2) (grown_setCell w2 g 65 (.int .i64 (((bs'.length : Nat) : Int) + (q : Int))))) e3
            refine round_end hkm hys hbs' hX hq1 hyl hkc hcc hat ho hgr hg4 ?_
            exact wr_seal hl he (Chain.kept hg4 (NoBlock.of Hb.out (by decide)) cs _ Hc.out) (by omega) e1 e2 (by omega)
      · have hM : (((L : Int) + (q : Int)) % 64 == 0) = false := by rw [beq_eq_false_iff_ne]; omega
        go_wp2
        go_roundg (gk - q)
        case measure => omega
        case rel =>
          obtain ⟨hys, hbs'⟩ := HY.out
          obtain ⟨hLe, hrL, hq, hX, hXV, hXl, he⟩ := HB.out
          obtain ⟨hat, ho, hgr, hyl, hl⟩ := Hat.out
          subst hLe; subst hrL
          have hg4 := grown_trans (grown_trans (grown_drew wr (some g)) hg2) (grown_setCell w2 g 65 (.int .i64 (((bs'.length : Nat) : Int) + (q : Int))))
          refine round_end hkm hys hbs' hX hq1 hyl hkc hcc hat ho hgr hg4 ?_
          have e1 := row_setCell H2.out 65 (.int .i64 (((bs'.length : Nat) : Int) + (q : Int)))
          rw [← Int.natCast_add, wrow_set_last _ _ _ _ (by rw [length_splice _ _ _ (by omega)]; exact hl)] at e1
          rw [← Int.natCast_add] at hg4 ⊢
          exact wr_more hl he (Chain.kept hg4 (NoBlock.of Hb.out (by decide)) cs _ Hc.out) (by omega) e1 (by omega)
    · have h0 : gk = 0 := by omega
      subst h0
      go_wp2
      go_end0
      have hm : m = n := by omega
      refine ⟨rfl, ?_, hgr⟩
      rw [hm, ← hn, List.take_length] at hwr
      exact hwr
end Go.Proofs.YtahjckcfcdnlmaaGreatDoor.Oc
/- The contracts of a Writer's calls that put, and of Len. -/
namespace Go.Proofs.YtahjckcfcdnlmaaGreatDoor.Oc
open Go.RowKit

/-- The row behind k rounds. -/
def rowK (N : Int) (k : Nat) : List Value := (leB N k ++ List.replicate (8 - k) 0).map (Value.int .u8)
theorem rowK_set (N : Int) (k : Nat) (h : k < 8) : (rowK N k).set k (.int .u8 (N / 2 ^ (8 * k) % 256)) = rowK N (k + 1) := by
  have e : 8 - k = (8 - (k + 1)) + 1 := by omega
  have hl := leB_length N k
  rw [rowK, rowK, e, List.replicate_succ, List.map_append, List.set_append]
  simp only [List.length_map, hl, Nat.lt_irrefl, if_false, Nat.sub_self, List.map_cons, List.set_cons_zero]
  simp [leB, List.range_succ]
theorem rowK_get (N : Int) (k : Nat) (h : k < 8) : (rowK N k)[k]? = some (.int .u8 0) := by
  have hl := leB_length N k
  have e : 8 - k = (8 - (k + 1)) + 1 := by omega
  rw [rowK, e, List.replicate_succ, List.map_append, List.getElem?_append_right (by simp [hl])]
  simp [hl]
theorem rowK_at {w : World} {A k : Nat} {N : Int} (h : w.heap[A]? = some (.cells (rowK N k).toArray 182 (0, 0))) : At w (some ⟨A, 0, none⟩) (leB N k) := by
  intro j u hu
  refine ⟨_, rfl, ?_⟩
  rw [Addr.add_lit, cell_row h, rowK, List.getElem?_map, List.getElem?_append_left (by have := (List.getElem?_eq_some_iff.1 hu).1; omega)]
  simp [hu]

theorem sliceAt_row (g j : Nat) (h : j ≤ 8) (w : World) : (Instr.sliceAt 182 (.pointer (some ⟨g, 0, none⟩)) none (some (.int .i64 (j : Int))) none).run Tryz.prog w = .ok (.slice (some ⟨g, 0, none⟩) j 8) w := by
  simp [Instr.sliceAt, Instr.sureAddr, run_underlying Tryz.underlying182, Instr.sliceBounds, Instr.sliceBound, asIntOf, h, Addr.add_mid]
set_option maxHeartbeats 1000000 in
theorem number_any (g : Nat) (bs : List Int) (N S : Int) (size : Nat) (w : World) (hS : S = (size : Int)) (hW : WrAt w g bs) (hs : size ≤ 8) (_h0 : 0 ≤ N) (_h1 : N < 18446744073709551616) (hL : bs.length ≤ 4611686018427387000) :
    Calls Tryz.prog 100 #[.pointer (some ⟨g, 0, none⟩), .int .u64 N, .int .i64 S] w fun e w' => e = .returned (.tuple #[]) ∧ WrAt w' g (bs ++ leB N size) ∧ w.grownBy w' (some g) := by
  subst hS
  have HW := hide hW
  have hgl := hW.lt
  have HL := hide hL
  clear hW hL
  go_enter Tryz.func100, Tryz.ntmps100
  go_wp2
  go_loopg [9] size (fun k i wr => ∃ j : Nat, k + j = size ∧ i = .int .i64 j ∧ wr.heap[w.heap.size]? = some (.cells (rowK N j).toArray 182 (0, 0)) ∧ w.grownBy wr none)
  case atStart => exact ⟨0, rfl, rfl, heap_alloc_new w _, World.grownBy_alloc w _ _⟩
  case round =>
    obtain ⟨j, hkj, rfl, hb, hgr⟩ := hrel
    have Hb := hide hb
    by_cases hk : 0 < gk
    · have hj : j < size := by omega
      have hc : wr.cell? ⟨w.heap.size, j, none⟩ = some (.int .u8 0) := by rw [cell_row hb, rowK_get N j (by omega)]
      have hf : wr.frozen? ⟨w.heap.size, j, none⟩ = false := free_row hb _
      clear hb
      go_wp2
      go_roundg (gk - 1)
      case measure => omega
      case rel =>
        refine ⟨j + 1, by omega, by go_num, ?_, grown_then hgr (grown_setCell wr w.heap.size j _) (fun k e => by cases e; exact Or.inl (Nat.le_refl _))⟩
        rw [row_setCell Hb.out, rowK_set N j (by omega)]
    · have hjs : j = size := by omega
      subst hjs
      clear hb
      have hsl : ∀ w', (Instr.sliceAt 182 (.pointer (some ⟨w.heap.size, 0, none⟩)) none (some (.int .i64 (j : Int))) none).run Tryz.prog w' = .ok (.slice (some ⟨w.heap.size, 0, none⟩) j 8) w' := sliceAt_row w.heap.size j hs
      go_wp2_with fail
      refine (behind_any g j bs (leB N j) _ 8 _ (HW.out.kept hgr (by simp) (NoBlock.none _)) (leB_length N j) (rowK_at Hb.out) ?_ (by omega) (by unfold maxLen; omega) (by have := HL.out; omega)).mono ?_
      · intro a ha; cases ha; exact Nat.ne_of_gt hgl
      · rintro e w' ⟨rfl, hwr, hg⟩
        go_wp2
        go_end0
        exact ⟨rfl, hwr, grown_trans (grown_none hgr _) hg⟩
set_option maxHeartbeats 400000 in
theorem two_any (g : Nat) (bs : List Int) (N : Int) (w : World) (hW : WrAt w g bs) (h0 : 0 ≤ N) (h1 : N < 65536) (hL : bs.length ≤ 4611686018427387000) :
    Calls Tryz.prog 73 #[.pointer (some ⟨g, 0, none⟩), .int .u16 N] w fun e w' => e = .returned (.tuple #[]) ∧ WrAt w' g (bs ++ leB N 2) ∧ w.grownBy w' (some g) := by
  go_enter Tryz.func73, Tryz.ntmps73
  go_wp2_with fail
  refine (number_any g bs N _ 2 _ rfl hW (by omega) h0 (by omega) hL).mono ?_
  rintro e w' ⟨rfl, hwr, hg⟩
  go_wp2
  go_end0
  exact ⟨rfl, hwr, hg⟩
set_option maxHeartbeats 400000 in
theorem four_any (g : Nat) (bs : List Int) (N : Int) (w : World) (hW : WrAt w g bs) (h0 : 0 ≤ N) (h1 : N < 4294967296) (hL : bs.length ≤ 4611686018427387000) :
    Calls Tryz.prog 74 #[.pointer (some ⟨g, 0, none⟩), .int .u32 N] w fun e w' => e = .returned (.tuple #[]) ∧ WrAt w' g (bs ++ leB N 4) ∧ w.grownBy w' (some g) := by
  go_enter Tryz.func74, Tryz.ntmps74
  go_wp2_with fail
  refine (number_any g bs N _ 4 _ rfl hW (by omega) h0 (by omega) hL).mono ?_
  rintro e w' ⟨rfl, hwr, hg⟩
  go_wp2
  go_end0
  exact ⟨rfl, hwr, hg⟩
set_option maxHeartbeats 400000 in
theorem eight_any (g : Nat) (bs : List Int) (N : Int) (w : World) (hW : WrAt w g bs) (h0 : 0 ≤ N) (h1 : N < 18446744073709551616) (hL : bs.length ≤ 4611686018427387000) :
    Calls Tryz.prog 75 #[.pointer (some ⟨g, 0, none⟩), .int .u64 N] w fun e w' => e = .returned (.tuple #[]) ∧ WrAt w' g (bs ++ leB N 8) ∧ w.grownBy w' (some g) := by
  go_enter Tryz.func75, Tryz.ntmps75
  go_wp2_with fail
  refine (number_any g bs N _ 8 _ rfl hW (by omega) h0 (by omega) hL).mono ?_
  rintro e w' ⟨rfl, hwr, hg⟩
  go_wp2
  go_end0
  exact ⟨rfl, hwr, hg⟩
end Go.Proofs.YtahjckcfcdnlmaaGreatDoor.Oc
