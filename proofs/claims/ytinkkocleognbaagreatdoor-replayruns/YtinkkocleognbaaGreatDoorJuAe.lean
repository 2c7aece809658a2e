/- Texts joined: JnAe. -/
import Derived.Test.YtinkkocleognbaaGreatDoorJuAd
import Derived.Test.YtinkkocleognbaaGreatDoorJuAa
import Derived.Test.YtinkkocleognbaaGreatDoorJuAc
import Derived.WalkKit
import Derived.Maps.OwnSet
import Derived.Shelf.SlMaps.Clone
import Derived.WalkSpells
import Derived.WalkLawsBesides
import Derived.Laws.CopyOwn
import Derived.Laws.Bits64b
import Derived.Laws.Bits64
import Derived.Deep.MidRow
import Derived.Deep.LoopGhost
import Derived.Deep.RegionHeld3
import Derived.Deep.DrawnRows
import Derived.Deep.QuietTactic
import Derived.Deep.RegionWith
import Derived.BigQuiet
import Derived.Deep.OwnRows
import Derived.Laws.AppendOwnNone
import Derived.Laws.BitsAllLaws
import Derived.Laws.OwnMore
import Derived.ArgAppend
import Derived.Test.YtinkkocleognbaaGreatDoorChecked
import Derived.Maps.AppendAt
import Derived.Lib.SliceRun
import Derived.Defers
import Derived.Recover
/- Texts joined: HpHy, Bk1, Bk2, HpMap, HpHb, HpHc. -/
/- The least one, where less goes by a rank. -/
namespace Go.Proofs.YtinkkocleognbaaGreatDoor.Hp
section
variable {α : Type} {lt : α → α → Bool} {r : α → Int}
/-- By rank, then by handle. -/
def Le (r : α → Int) (x y : Nat × α) : Prop := r x.2 < r y.2 ∨ (r x.2 = r y.2 ∧ x.1 ≤ y.1)
theorem Le.refl (x : Nat × α) : Le r x x := .inr ⟨rfl, Nat.le_refl _⟩
theorem Le.trans {x y z : Nat × α} (h : Le r x y) (k : Le r y z) : Le r x z := by
  unfold Le at *
  omega
theorem ah_le {x y : Nat × α} (h1 : lt x.2 y.2 = decide (r x.2 < r y.2)) (h2 : lt y.2 x.2 = decide (r y.2 < r x.2)) : (ah lt x y = true → Le r x y) ∧ (ah lt x y = false → Le r y x) := by
  unfold ah Le
  rw [h1, h2]
  split <;> simp <;> omega
end
section
variable {α : Type} [Inhabited α] {lt : α → α → Bool} {E : List (Nat × α)} {T : List Nat} {r : α → Int}
theorem lw1_le {l b : Nat} (hlt : ∀ i j, i < E.length → j < E.length → lt (en E i).2 (en E j).2 = decide (r (en E i).2 < r (en E j).2)) (hl : l < E.length) (hb : tn T b < E.length) : Le r (en E (lw1 lt E T l b)) (en E l) ∧ Le r (en E (lw1 lt E T l b)) (en E (tn T b)) := by
  have h := ah_le (r := r) (hlt _ _ hb hl) (hlt _ _ hl hb)
  unfold lw1
  cases ha : ah lt (en E (tn T b)) (en E l) with
  | true => simp only [if_true]; exact ⟨h.1 ha, Le.refl _⟩
  | false => simp only [Bool.false_eq_true, if_false]; exact ⟨Le.refl _, h.2 ha⟩
theorem Good.least_sub (hlt : ∀ i j, i < E.length → j < E.length → lt (en E i).2 (en E j).2 = decide (r (en E i).2 < r (en E j).2)) (h : Good lt E T) : ∀ b c, b < E.length → c < E.length → Pth (c + 1) b → Le r (en E (tn T b)) (en E c) := by
  have H : ∀ m b c, E.length - b ≤ m → b < E.length → c < E.length → Pth (c + 1) b → Le r (en E (tn T b)) (en E c) := by
    intro m
    induction m with
    | zero => intro b c h1 h2; omega
    | succ m ih =>
      intro b c h1 hb hc hp
      rw [h.right b hb]
      have hA : Le r (en E (lwA lt E T b)) (en E b) ∧ (2 * b + 1 < E.length → Le r (en E (lwA lt E T b)) (en E (tn T (2 * b + 1)))) ∧ lwA lt E T b < E.length := by
        unfold lwA
        by_cases h2 : 2 * b + 1 < E.length
        · rw [if_pos h2]
          have := lw1_le (T := T) hlt hb (h.sub _ h2).2
          refine ⟨this.1, fun _ => this.2, ?_⟩
          rcases lw1_or (lt := lt) (E := E) (T := T) b (2 * b + 1) with e | e
          · rw [e]; exact hb
          · rw [e]; exact (h.sub _ h2).2
        · rw [if_neg h2]
          exact ⟨Le.refl _, fun e => absurd e h2, hb⟩
      have hW : Le r (en E (lw lt E T b)) (en E (lwA lt E T b)) ∧ (2 * b + 2 < E.length → Le r (en E (lw lt E T b)) (en E (tn T (2 * b + 2)))) := by
        unfold lw
        by_cases h2 : 2 * b + 2 < E.length
        · rw [if_pos h2]
          have := lw1_le (T := T) hlt hA.2.2 (h.sub _ h2).2
          exact ⟨this.1, fun _ => this.2⟩
        · rw [if_neg h2]
          exact ⟨Le.refl _, fun e => absurd e h2⟩
      rcases hp.below with e | e | e
      · obtain rfl : c = b := by omega
        exact hW.1.trans hA.1
      · have h2 : 2 * b + 1 < E.length := by have := e.le; omega
        exact (hW.1.trans (hA.2.1 h2)).trans (ih (2 * b + 1) c (by omega) h2 hc e)
      · have h2 : 2 * b + 2 < E.length := by have := e.le; omega
        exact (hW.2 h2).trans (ih (2 * b + 2) c (by omega) h2 hc e)
  exact fun b c hb hc hp => H _ b c (Nat.le_refl _) hb hc hp
theorem Good.least (hlt : ∀ i j, i < E.length → j < E.length → lt (en E i).2 (en E j).2 = decide (r (en E i).2 < r (en E j).2)) (h : Good lt E T) : ∀ c, c < E.length → Le r (en E (tn T 0)) (en E c) :=
  fun c hc => h.least_sub hlt 0 c (by omega) hc (pth_top (c + 1) (by omega))
end
end Go.Proofs.YtinkkocleognbaaGreatDoor.Hp
/- How a book lies in its parts: numbers and lists alone. -/
namespace Go.Proofs.YtinkkocleognbaaGreatDoor
open Ix Hp

/-- The until of an id, by the index M and the seats R. -/
def tl (M : List (Nat × Int)) (R : List Bg) (k : Nat) : Int := (lk M k).elim 0 fun s => ((R[s.toNat]?).getD default).u
/-- What the index holds. -/
def mx (L : List Bg) : List (Nat × Int) := L.map fun x => (x.i, (x.s : Int))
/-- The parts of a book. -/
structure Rel (S : Sb) (Lb : List Bool) (R : List Bg) (M : List (Nat × Int)) (E : List (Nat × Int)) : Prop where
  lb : Lb.length = S.a
  tk : ∀ j, Lb.getD j false = (sat S.L j).isSome
  rl : R.length = S.a
  rw : ∀ x ∈ S.L, R[x.s]? = some x
  m : M = mx S.L
  e1 : ∀ e ∈ E, ∃ x ∈ S.L, (x.i : Int) = e.2 ∧ x.u ≠ 0
  e2 : ∀ x ∈ S.L, x.u ≠ 0 → ∃ e ∈ E, e.2 = (x.i : Int)
  e3 : E.Pairwise fun e f => e.2 ≠ f.2
/-- It may be, but for what is due. -/
structure Sb.Wk (S : Sb) : Prop where
  a0 : 1 ≤ S.a
  a1 : S.a ≤ 1024
  b0 : 1 ≤ S.b
  b1 : S.b ≤ 4096
  c0 : 1 ≤ S.c
  c1 : S.c ≤ 64
  n0 : 1 ≤ S.n
  n1 : S.n < 4294967296
  t0 : 0 ≤ S.t
  t1 : S.t ≤ mxC
  asc : AscB S.L
  id : ∀ x ∈ S.L, 1 ≤ x.i ∧ x.i < S.n
  st : ∀ x ∈ S.L, x.s < S.a
  one : OneS S.L
  til : ∀ x ∈ S.L, 0 ≤ x.u ∧ x.u ≤ mxC
  few : S.L.length ≤ S.b
theorem Sb.Ok.wk {S : Sb} (h : S.Ok) : S.Wk := by
  refine ⟨h.a0, h.a1, h.b0, h.b1, h.c0, h.c1, h.n0, h.n1, h.t0, h.t1, h.asc, h.id, h.st, h.one, fun x hx => ?_, h.few⟩
  have := h.t0
  have h0 : (0 : Int) ≤ mxC := by decide
  rcases h.til x hx with e | e <;> omega
theorem mx_length (L : List Bg) : (mx L).length = L.length := by simp [mx]
theorem lk_mx (L : List Bg) (k : Nat) : lk (mx L) k = (fnd L k).map fun x => (x.s : Int) := by
  unfold lk mx fnd
  rw [List.find?_map, Option.map_map]
  rfl
theorem mx_snoc {L : List Bg} {x : Bg} (h : ∀ y ∈ L, y.i < x.i) : ins (mx L) (x.i, (x.s : Int)) = mx (L ++ [x]) := by
  induction L with
  | nil => rfl
  | cons y r ih =>
    have hy := h y (List.mem_cons_self ..)
    have e : mx (y :: r) = (y.i, (y.s : Int)) :: mx r := rfl
    have e2 : mx (y :: r ++ [x]) = (y.i, (y.s : Int)) :: mx (r ++ [x]) := rfl
    rw [e, e2, ins, if_neg (by simp; omega), ih (fun z hz => h z (List.mem_cons_of_mem _ hz))]
theorem mx_del (L : List Bg) (i : Nat) : dr (mx L) i = mx (del L i) := by
  unfold dr mx del
  rw [List.filter_map]
  rfl
theorem mx_upd (L : List Bg) (i : Nat) (y : Bg) (hy : y.i = i) : up (mx L) i (y.s : Int) = mx (upd L i y) := by
  unfold up mx upd
  rw [List.map_map, List.map_map]
  apply List.map_congr_left
  intro x _
  simp only [Function.comp]
  split
  · simp [hy]
  · rfl
/-- Only the until, or nothing, is another one: the index stays. -/
theorem mx_same (L : List Bg) (x : Bg) (hA : AscB L) (hx : x ∈ L) (u : Int) : mx (upd L x.i { x with u := u }) = mx L := by
  unfold mx upd
  rw [List.map_map]
  apply List.map_congr_left
  intro y hy
  simp only [Function.comp]
  split
  · rename_i e; rw [hA.same hy hx e]
  · rfl
section
variable {S : Sb} {Lb : List Bool} {R : List Bg} {M E : List (Nat × Int)}
theorem Rel.tl (h : Rel S Lb R M E) (k : Nat) : tl M R k = (fnd S.L k).elim 0 (·.u) := by
  unfold Go.Proofs.YtinkkocleognbaaGreatDoor.tl
  rw [h.m, lk_mx]
  cases hf : fnd S.L k with
  | none => rfl
  | some x =>
    have := h.rw x (List.mem_of_find?_eq_some hf)
    simp [this]
theorem Rel.tl_mem (h : Rel S Lb R M E) (hA : AscB S.L) {x : Bg} (hx : x ∈ S.L) : Go.Proofs.YtinkkocleognbaaGreatDoor.tl M R x.i = x.u := by
  rw [h.tl, (fnd_some hA).2 ⟨hx, rfl⟩]; rfl
theorem getD_set' (L : List Bool) (i : Nat) (v : Bool) (hi : i < L.length) (j : Nat) : (L.set i v).getD j false = if j = i then v else L.getD j false := by
  simp only [List.getD_eq_getElem?_getD, List.getElem?_set]
  by_cases h : i = j
  · subst h; simp [hi]
  · rw [if_neg h, if_neg (fun e => h e.symm)]
/-- One more, which is not held. -/
theorem Rel.add (h : Rel S Lb R M E) (_hw : S.Wk) {x : Bg} (hs : x.s < S.a) (hi : ∀ y ∈ S.L, y.i < x.i) (hn : sat S.L x.s = none) (hu : x.u = 0) :
    Rel { S with L := S.L ++ [x] } (Lb.set x.s true) (R.set x.s x) (ins M (x.i, (x.s : Int))) E := by
  have hno := sat_none.1 hn
  refine ⟨by simp [h.lb], fun j => ?_, by simp [h.rl], fun y hy => ?_, by rw [h.m]; exact mx_snoc hi, fun e he => ?_, fun y hy hyu => ?_, h.e3⟩
  · rw [getD_set' _ _ _ (by rw [h.lb]; exact hs), h.tk, Bool.eq_iff_iff, sat_isSome]
    split
    · rename_i e; subst e; simp
    · rename_i e
      rw [sat_isSome]
      exact ⟨fun ⟨y, hy, h2⟩ => ⟨y, List.mem_append_left _ hy, h2⟩, fun ⟨y, hy, h2⟩ => by
        rcases List.mem_append.1 hy with hy | hy
        · exact ⟨y, hy, h2⟩
        · rw [List.mem_singleton] at hy; subst hy; exact absurd h2.symm e⟩
  · rw [List.getElem?_set]
    rcases List.mem_append.1 hy with hy | hy
    · rw [if_neg (fun e => hno y hy e.symm)]; exact h.rw y hy
    · rw [List.mem_singleton] at hy; subst hy; simp [h.rl, hs]
  · obtain ⟨y, hy, h2⟩ := h.e1 e he
    exact ⟨y, List.mem_append_left _ hy, h2⟩
  · rcases List.mem_append.1 hy with hy | hy
    · exact h.e2 y hy hyu
    · rw [List.mem_singleton] at hy; subst hy; exact absurd hu hyu
/-- One more, which is held. -/
theorem Rel.addH (h : Rel S Lb R M E) (_hw : S.Wk) {x : Bg} (hs : x.s < S.a) (hi : ∀ y ∈ S.L, y.i < x.i) (hn : sat S.L x.s = none) (hu : x.u ≠ 0) (N : Nat) :
    Rel { S with L := S.L ++ [x] } (Lb.set x.s true) (R.set x.s x) (ins M (x.i, (x.s : Int))) (E ++ [(N, (x.i : Int))]) := by
  have hno := sat_none.1 hn
  refine ⟨by simp [h.lb], fun j => ?_, by simp [h.rl], fun y hy => ?_, by rw [h.m]; exact mx_snoc hi, fun e he => ?_, fun y hy hyu => ?_, ?_⟩
  · rw [getD_set' _ _ _ (by rw [h.lb]; exact hs), h.tk, Bool.eq_iff_iff, sat_isSome]
    split
    · rename_i e; subst e; simp
    · rename_i e
      rw [sat_isSome]
      exact ⟨fun ⟨y, hy, h2⟩ => ⟨y, List.mem_append_left _ hy, h2⟩, fun ⟨y, hy, h2⟩ => by
        rcases List.mem_append.1 hy with hy | hy
        · exact ⟨y, hy, h2⟩
        · rw [List.mem_singleton] at hy; subst hy; exact absurd h2.symm e⟩
  · rw [List.getElem?_set]
    rcases List.mem_append.1 hy with hy | hy
    · rw [if_neg (fun e => hno y hy e.symm)]; exact h.rw y hy
    · rw [List.mem_singleton] at hy; subst hy; simp [h.rl, hs]
  · rcases List.mem_append.1 he with he | he
    · obtain ⟨y, hy, h2⟩ := h.e1 e he
      exact ⟨y, List.mem_append_left _ hy, h2⟩
    · rw [List.mem_singleton] at he; subst he
      exact ⟨x, List.mem_append_right _ (List.mem_singleton.2 rfl), rfl, hu⟩
  · rcases List.mem_append.1 hy with hy | hy
    · obtain ⟨e, he, h2⟩ := h.e2 y hy hyu
      exact ⟨e, List.mem_append_left _ he, h2⟩
    · rw [List.mem_singleton] at hy; subst hy; exact ⟨(N, (y.i : Int)), List.mem_append_right _ (List.mem_singleton.2 rfl), rfl⟩
  · rw [List.pairwise_append]
    refine ⟨h.e3, List.pairwise_singleton _ _, fun e he f hf => ?_⟩
    rw [List.mem_singleton] at hf; subst hf
    obtain ⟨y, hy, h2, -⟩ := h.e1 e he
    have := hi y hy
    simp; omega
theorem en_getElem {E : List (Nat × Int)} {i : Nat} (hi : i < E.length) : Hp.en E i = E[i] := by unfold Hp.en; rw [List.getElem?_eq_getElem hi]; rfl
theorem outE_perm {E : List (Nat × Int)} {i : Nat} (hi : i < E.length) : (outE E i).Perm (E.eraseIdx i) := by
  have hl : (outE E i).length = E.length - 1 := outE_length
  have he : ∀ j, j < E.length - 1 → Hp.en (outE E i) j = if j = i then Hp.en E (E.length - 1) else Hp.en E j := by
    intro j hj
    split
    · rename_i e
      subst e
      unfold outE Hp.en
      rw [List.getElem?_take, if_pos hj, List.getElem?_set]
      simp [hi]
    · rename_i e; exact en_out hj e
  by_cases hlast : i = E.length - 1
  · have h2 : outE E i = E.eraseIdx i := by
      apply List.ext_getElem?
      intro j
      unfold outE
      rw [List.getElem?_take, List.getElem?_eraseIdx]
      by_cases hj : j < E.length - 1
      · rw [if_pos hj, if_pos (by omega), List.getElem?_set, if_neg (by omega)]
      · rw [if_neg hj, if_neg (by omega), List.getElem?_eq_none (by omega)]
    rw [h2]
  · have h2 : E = (E.take i ++ E[i] :: ((E.drop (i + 1)).dropLast ++ [E[E.length - 1]])) := by
      have h3 : E.drop (i + 1) ≠ [] := by intro e; have := congrArg List.length e; simp at this; omega
      have h4 : (E.drop (i + 1)).getLast h3 = E[E.length - 1] := by rw [List.getLast_drop, List.getLast_eq_getElem]
      rw [← h4, List.dropLast_concat_getLast h3, List.getElem_cons_drop, List.take_append_drop]
    have h5 : outE E i = E.take i ++ E[E.length - 1] :: (E.drop (i + 1)).dropLast := by
      apply List.ext_getElem?
      intro j
      unfold outE
      rw [List.getElem?_take, List.getElem?_append]
      simp only [List.length_take, Nat.min_eq_left (Nat.le_of_lt hi)]
      by_cases hj : j < E.length - 1
      · rw [if_pos hj, List.getElem?_set]
        by_cases h6 : i = j
        · subst h6
          rw [if_pos rfl, if_pos hi, if_neg (by omega), Nat.sub_self]
          simp [en_getElem (show E.length - 1 < E.length by omega)]
        · rw [if_neg h6]
          by_cases h7 : j < i
          · rw [if_pos h7, List.getElem?_take, if_pos h7]
          · rw [if_neg h7, show j - i = (j - i - 1) + 1 by omega, List.getElem?_cons_succ, List.getElem?_dropLast, List.length_drop, if_pos (by omega), List.getElem?_drop]
            congr 1
            omega
      · rw [if_neg hj, if_neg (by omega), show j - i = (j - i - 1) + 1 by omega, List.getElem?_cons_succ, List.getElem?_dropLast, List.length_drop, if_neg (by omega)]
    have h6 : E.eraseIdx i = E.take i ++ ((E.drop (i + 1)).dropLast ++ [E[E.length - 1]]) := by
      have h3 : E.drop (i + 1) ≠ [] := by intro e; have := congrArg List.length e; simp at this; omega
      have h4 : (E.drop (i + 1)).getLast h3 = E[E.length - 1] := by rw [List.getLast_drop, List.getLast_eq_getElem]
      rw [← h4, List.dropLast_concat_getLast h3, List.eraseIdx_eq_take_drop_succ]
    rw [h5, h6]
    exact List.Perm.append_left _ (List.perm_append_singleton _ _).symm
theorem erase_mem {E : List (Nat × Int)} (h3 : E.Pairwise fun e f => e.2 ≠ f.2) {i : Nat} (hi : i < E.length) {e : Nat × Int} : e ∈ E.eraseIdx i ↔ e ∈ E ∧ e.2 ≠ (Hp.en E i).2 := by
  rw [List.mem_eraseIdx_iff_getElem, en_getElem hi]
  rw [List.pairwise_iff_getElem] at h3
  constructor
  · rintro ⟨j, hj, hne, rfl⟩
    refine ⟨List.getElem_mem _, fun e => ?_⟩
    rcases Nat.lt_or_ge j i with h | h
    · exact h3 j i hj hi h e
    · exact h3 i j hi hj (by omega) e.symm
  · rintro ⟨he, hne⟩
    obtain ⟨j, hj, rfl⟩ := List.mem_iff_getElem.1 he
    exact ⟨j, hj, fun e => hne (by subst e; rfl), rfl⟩
theorem outE_mem {E : List (Nat × Int)} (h3 : E.Pairwise fun e f => e.2 ≠ f.2) {i : Nat} (hi : i < E.length) {e : Nat × Int} : e ∈ outE E i ↔ e ∈ E ∧ e.2 ≠ (Hp.en E i).2 := by
  rw [(outE_perm hi).mem_iff, erase_mem h3 hi]
theorem outE_pair {E : List (Nat × Int)} (h3 : E.Pairwise fun e f => e.2 ≠ f.2) {i : Nat} (hi : i < E.length) : (outE E i).Pairwise fun e f => e.2 ≠ f.2 :=
  (outE_perm hi).symm.pairwise (h3.sublist (List.eraseIdx_sublist _ _)) (fun h e => h e.symm)
/-- What is due, without one id. -/
theorem Rel.gone (h : Rel S Lb R M E) (hw : S.Wk) {E' : List (Nat × Int)} {x : Bg} (hx : x ∈ S.L) (hE : ∀ e, e ∈ E' ↔ e ∈ E ∧ e.2 ≠ (x.i : Int)) (h3 : E'.Pairwise fun e f => e.2 ≠ f.2) :
    Rel { S with L := del S.L x.i } (Lb.set x.s false) R (dr M x.i) E' := by
  have hs := hw.st x hx
  refine ⟨by simp [h.lb], fun j => ?_, h.rl, fun y hy => h.rw y (del_mem.1 hy).1, by rw [h.m]; exact mx_del _ _, fun e he => ?_, fun y hy hyu => ?_, h3⟩
  · rw [getD_set' _ _ _ (by rw [h.lb]; exact hs), h.tk]
    split
    · rename_i e
      subst e
      symm
      rw [Bool.eq_false_iff]
      intro e2
      obtain ⟨y, hy, h2⟩ := sat_isSome.1 e2
      obtain ⟨h4, h5⟩ := del_mem.1 hy
      exact h5 (by rw [hw.one.same h4 hx h2])
    · rename_i e
      rw [Bool.eq_iff_iff, sat_isSome, sat_isSome]
      exact ⟨fun ⟨y, hy, h2⟩ => ⟨y, del_mem.2 ⟨hy, fun e3 => e (by rw [← h2, hw.asc.same hy hx e3])⟩, h2⟩, fun ⟨y, hy, h2⟩ => ⟨y, (del_mem.1 hy).1, h2⟩⟩
  · obtain ⟨h4, h5⟩ := (hE e).1 he
    obtain ⟨y, hy, h6, h7⟩ := h.e1 e h4
    exact ⟨y, del_mem.2 ⟨hy, fun e3 => h5 (by rw [← h6, e3])⟩, h6, h7⟩
  · obtain ⟨h4, h5⟩ := del_mem.1 hy
    obtain ⟨e, he, h6⟩ := h.e2 y h4 hyu
    exact ⟨e, (hE e).2 ⟨he, fun e3 => h5 (by rw [h6] at e3; exact Int.ofNat.inj e3)⟩, h6⟩
/-- Held no more. -/
theorem Rel.conf (h : Rel S Lb R M E) (hw : S.Wk) {E' : List (Nat × Int)} {x : Bg} (hx : x ∈ S.L) (hE : ∀ e, e ∈ E' ↔ e ∈ E ∧ e.2 ≠ (x.i : Int)) (h3 : E'.Pairwise fun e f => e.2 ≠ f.2) :
    Rel { S with L := upd S.L x.i { x with u := 0 } } Lb (R.set x.s { x with u := 0 }) M E' := by
  have hs := hw.st x hx
  refine ⟨h.lb, fun j => ?_, by simp [h.rl], fun y hy => ?_, by rw [h.m]; exact (mx_same _ x hw.asc hx 0).symm, fun e he => ?_, fun y hy hyu => ?_, h3⟩
  · rw [h.tk, Bool.eq_iff_iff, sat_isSome, sat_isSome]
    constructor
    · rintro ⟨y, hy, h2⟩
      by_cases e : y.i = x.i
      · exact ⟨_, upd_mem.2 (.inl ⟨rfl, x, hx, rfl⟩), by rw [← h2, hw.asc.same hy hx e]⟩
      · exact ⟨y, upd_mem.2 (.inr ⟨hy, e⟩), h2⟩
    · rintro ⟨y, hy, h2⟩
      rcases upd_mem.1 hy with ⟨rfl, -⟩ | ⟨hy, -⟩
      · exact ⟨x, hx, h2⟩
      · exact ⟨y, hy, h2⟩
  · rw [List.getElem?_set]
    rcases upd_mem.1 hy with ⟨rfl, -⟩ | ⟨hy, hne⟩
    · simp [h.rl, hs]
    · rw [if_neg (fun e => hne (by rw [hw.one.same hy hx e.symm]))]; exact h.rw y hy
  · obtain ⟨h4, h5⟩ := (hE e).1 he
    obtain ⟨y, hy, h6, h7⟩ := h.e1 e h4
    exact ⟨y, upd_mem.2 (.inr ⟨hy, fun e3 => h5 (by rw [← h6, e3])⟩), h6, h7⟩
  · rcases upd_mem.1 hy with ⟨rfl, -⟩ | ⟨hy, hne⟩
    · exact absurd rfl hyu
    · obtain ⟨e, he, h6⟩ := h.e2 y hy hyu
      exact ⟨e, (hE e).2 ⟨he, fun e3 => hne (by rw [h6] at e3; exact Int.ofNat.inj e3)⟩, h6⟩
/-- Another seat. -/
theorem Rel.move (h : Rel S Lb R M E) (hw : S.Wk) {x : Bg} (hx : x ∈ S.L) {s : Nat} (hs : s < S.a) (ho : s = x.s ∨ sat S.L s = none) :
    Rel { S with L := upd S.L x.i { x with s := s } } ((Lb.set x.s false).set s true) (R.set s { x with s := s }) (up M x.i (s : Int)) E := by
  have hxs := hw.st x hx
  have hoth : ∀ y ∈ S.L, y.i ≠ x.i → y.s ≠ s := fun y hy hne e => by
    rcases ho with ho | ho
    · exact hne (by rw [hw.one.same hy hx (e.trans ho)])
    · exact sat_none.1 ho y hy e
  refine ⟨by simp [h.lb], fun j => ?_, by simp [h.rl], fun y hy => ?_, by rw [h.m]; exact mx_upd _ _ { x with s := s } rfl, fun e he => ?_, fun y hy hyu => ?_, h.e3⟩
  · rw [getD_set' _ _ _ (by rw [List.length_set, h.lb]; exact hs), getD_set' _ _ _ (by rw [h.lb]; exact hxs), h.tk, Bool.eq_iff_iff, sat_isSome]
    split
    · rename_i e
      subst e
      simp
      exact ⟨_, upd_mem.2 (.inl ⟨rfl, x, hx, rfl⟩), rfl⟩
    · rename_i e
      split
      · rename_i e2
        subst e2
        simp
        intro y hy h2
        rcases upd_mem.1 hy with ⟨rfl, -⟩ | ⟨hy, hne⟩
        · exact e h2.symm
        · exact hne (by rw [hw.one.same hy hx h2])
      · rename_i e2
        rw [sat_isSome]
        constructor
        · rintro ⟨y, hy, h2⟩
          exact ⟨y, upd_mem.2 (.inr ⟨hy, fun e3 => e2 (by rw [← h2, hw.asc.same hy hx e3])⟩), h2⟩
        · rintro ⟨y, hy, h2⟩
          rcases upd_mem.1 hy with ⟨rfl, -⟩ | ⟨hy, hne⟩
          · exact absurd h2.symm e
          · exact ⟨y, hy, h2⟩
  · rw [List.getElem?_set]
    rcases upd_mem.1 hy with ⟨rfl, -⟩ | ⟨hy, hne⟩
    · simp [h.rl, hs]
    · rw [if_neg (fun e => hoth y hy hne e.symm)]; exact h.rw y hy
  · obtain ⟨y, hy, h6, h7⟩ := h.e1 e he
    by_cases e3 : y.i = x.i
    · exact ⟨_, upd_mem.2 (.inl ⟨rfl, x, hx, rfl⟩), by rw [← h6, e3], by rw [← hw.asc.same hy hx e3]; exact h7⟩
    · exact ⟨y, upd_mem.2 (.inr ⟨hy, e3⟩), h6, h7⟩
  · rcases upd_mem.1 hy with ⟨rfl, -⟩ | ⟨hy, hne⟩
    · exact h.e2 x hx hyu
    · exact h.e2 y hy hyu
/-- What the map of handles answers. -/
def hmf (E : List (Nat × Int)) : Int → Option Nat := fun k => (E.find? fun e => e.2 == k).map (·.1)
theorem hmf_some {E : List (Nat × Int)} (h3 : E.Pairwise fun e f => e.2 ≠ f.2) {k : Int} {n : Nat} : hmf E k = some n ↔ (n, k) ∈ E := by
  unfold hmf
  constructor
  · intro e
    obtain ⟨f, hf, rfl⟩ := Option.map_eq_some_iff.1 e
    have h1 := List.mem_of_find?_eq_some hf
    have h2 := List.find?_some hf
    simp at h2
    rw [← h2]; exact h1
  · intro hm
    cases hq : E.find? (fun e => e.2 == k) with
    | none => exact absurd (List.find?_eq_none.1 hq _ hm) (by simp)
    | some f =>
      have h1 := List.mem_of_find?_eq_some hq
      have h2 := List.find?_some hq
      simp at h2
      have h4 : f = (n, k) := by
        apply Classical.byContradiction
        intro hne
        obtain ⟨i, hi, h5⟩ := List.mem_iff_getElem.1 h1
        obtain ⟨j, hj, h6⟩ := List.mem_iff_getElem.1 hm
        rw [List.pairwise_iff_getElem] at h3
        rcases Nat.lt_trichotomy i j with h | h | h
        · exact h3 i j hi hj h (by rw [h5, h6]; exact h2)
        · subst h; rw [h5] at h6; exact hne h6
        · exact h3 j i hj hi h (by rw [h5, h6]; exact h2.symm)
      rw [h4]; rfl
theorem hmf_none {E : List (Nat × Int)} {k : Int} : hmf E k = none ↔ ∀ e ∈ E, e.2 ≠ k := by
  unfold hmf; rw [Option.map_eq_none_iff, List.find?_eq_none]; simp
theorem hmf_push {E : List (Nat × Int)} {N : Nat} {k : Int} (h : ∀ e ∈ E, e.2 ≠ k) (y : Int) : (if y = k then some N else hmf E y) = hmf (E ++ [(N, k)]) y := by
  unfold hmf
  rw [List.find?_append]
  by_cases e : y = k
  · subst e
    rw [if_pos rfl, List.find?_eq_none.2 (by simpa using h)]
    simp
  · rw [if_neg e]
    cases hq : E.find? (fun e => e.2 == y) with
    | none => simp; exact fun e2 => e e2.symm
    | some f => simp
theorem hmf_ext {E E' : List (Nat × Int)} (h3 : E.Pairwise fun e f => e.2 ≠ f.2) (h3' : E'.Pairwise fun e f => e.2 ≠ f.2) {y : Int} (h : ∀ n, (n, y) ∈ E ↔ (n, y) ∈ E') : hmf E y = hmf E' y := by
  cases hq : hmf E y with
  | none =>
    symm
    rw [hmf_none] at hq ⊢
    rintro ⟨n, v⟩ hf rfl
    exact hq (n, v) ((h n).2 hf) rfl
  | some n => symm; rw [hmf_some h3']; exact (h n).1 ((hmf_some h3).1 hq)
theorem hmf_out {E : List (Nat × Int)} (h3 : E.Pairwise fun e f => e.2 ≠ f.2) {i : Nat} (hi : i < E.length) (y : Int) : (if y = (Hp.en E i).2 then none else hmf E y) = hmf (outE E i) y := by
  split
  · rename_i e
    symm
    rw [hmf_none]
    intro f hf
    rw [e]; exact ((outE_mem h3 hi).1 hf).2
  · rename_i e
    exact hmf_ext h3 (outE_pair h3 hi) (fun n => by rw [outE_mem h3 hi]; exact ⟨fun h => ⟨h, e⟩, fun h => h.1⟩)
end
end Go.Proofs.YtinkkocleognbaaGreatDoor
/- A book in memory: bookings as cells; find, untilOf. -/
namespace Go.Proofs.YtinkkocleognbaaGreatDoor
open Go.RowKit
attribute [local go_sem ↓] Go.wp_at_zero Go.wp_at_succ

/-- A booking as cells, as a value; bookings as cells. -/
def bgc (x : Bg) : List Value := [.int .u32 (x.i : Int), .int .i64 (x.s : Int), .int .i64 x.u]
def bgs (R : List Bg) : List Value := R.flatMap bgc
def bgV (x : Bg) : Value := .agg #[.int .u32 (x.i : Int), .int .i64 (x.s : Int), .int .i64 x.u]
def rd (R : List Bg) (s : Nat) : Bg := (R[s]?).getD default
theorem bgs_length (R : List Bg) : (bgs R).length = R.length * 3 := by
  induction R with
  | nil => rfl
  | cons x r ih => simp [bgs, bgc] at ih ⊢; omega
theorem bgs_cons (y : Bg) (r : List Bg) : bgs (y :: r) = .int .u32 (y.i : Int) :: .int .i64 (y.s : Int) :: .int .i64 y.u :: bgs r := by simp [bgs, bgc]
theorem bgs_get {R : List Bg} {i : Nat} (h : i < R.length) : (bgs R)[i * 3]? = some (.int .u32 ((rd R i).i : Int)) ∧ (bgs R)[i * 3 + 1]? = some (.int .i64 ((rd R i).s : Int)) ∧ (bgs R)[i * 3 + 2]? = some (.int .i64 (rd R i).u) := by
  induction R generalizing i with
  | nil => simp at h
  | cons y r ih =>
    rw [bgs_cons]
    cases i with
    | zero => simp [rd]
    | succ i =>
      have := ih (i := i) (by simpa using h)
      have e2 : rd (y :: r) (i + 1) = rd r i := by simp [rd]
      rw [e2, show (i + 1) * 3 = i * 3 + 3 by omega, show i * 3 + 3 + 1 = (i * 3 + 1) + 3 by omega, show i * 3 + 3 + 2 = (i * 3 + 2) + 3 by omega]
      simpa using this
theorem bgs_set {R : List Bg} {i : Nat} (y : Bg) : bgs (R.set i y) = (((bgs R).set (i * 3) (.int .u32 (y.i : Int))).set (i * 3 + 1) (.int .i64 (y.s : Int))).set (i * 3 + 2) (.int .i64 y.u) := by
  induction R generalizing i with
  | nil => simp [bgs]
  | cons z r ih =>
    cases i with
    | zero => simp [bgs_cons]
    | succ i =>
      rw [List.set_cons_succ, bgs_cons, bgs_cons, ih, show (i + 1) * 3 = i * 3 + 3 by omega, show i * 3 + 3 + 1 = (i * 3 + 1) + 3 by omega, show i * 3 + 3 + 2 = (i * 3 + 2) + 3 by omega]
      simp
theorem bgs_append (R R' : List Bg) : bgs (R ++ R') = bgs R ++ bgs R' := by simp [bgs]

/-- What find finds. -/
def fn (M : List (Nat × Int)) (R : List Bg) (k : Nat) : Bg := (Ix.lk M k).elim default fun s => rd R s.toNat
theorem fn_u (M : List (Nat × Int)) (R : List Bg) (k : Nat) : (fn M R k).u = tl M R k := by
  unfold fn tl; cases Ix.lk M k <;> rfl
/-- What find looks at. -/
structure Fd (w : World) (b sg : Nat) (ip : Ix.Ip) (M : List (Nat × Int)) (R : List Bg) : Prop where
  hd : ∃ cs : List Value, w.heap[b]? = some (.cells cs.toArray 37 (0, 0)) ∧ cs[7]? = some (.slice (some ⟨sg, 0, none⟩) R.length R.length) ∧ cs[8]? = some (.pointer (some ⟨ip.x, 0, none⟩))
  row : w.heap[sg]? = some (.cells (bgs R).toArray 108 (0, 0))
  ix : ∃ lo, Ix.Io w ip M lo
  in_ : ∀ y ∈ M, 0 ≤ y.2 ∧ y.2.toNat < R.length
  rb : R.length ≤ 1024
  nb : ¬ ip.own b
  ns : ¬ ip.own sg
section
variable {w w' : World} {b sg : Nat} {ip : Ix.Ip} {M : List (Nat × Int)} {R : List Bg}
theorem Fd.far {X : Nat → Prop} (h : Fd w b sg ip M R) (k : Kept w w' X) (hb : ¬ X b) (hs : ¬ X sg) (hi : ∀ i, ip.own i → ¬ X i) : Fd w' b sg ip M R := by
  obtain ⟨cs, h1, h2⟩ := h.hd
  obtain ⟨lo, h3⟩ := h.ix
  exact ⟨⟨cs, k.at h1 hb, h2⟩, k.at h.row hs, ⟨lo, h3.far k hi⟩, h.in_, h.rb, h.nb, h.ns⟩
theorem Fd.then (h : Fd w b sg ip M R) (k : w.grownBy w' none) : Fd w' b sg ip M R := h.far (Kept.new k (fun _ => False)) (fun e => e) (fun e => e) (fun _ _ e => e)
theorem Fd.cells (h : Fd w b sg ip M R) : w.cell? ⟨b, 7, none⟩ = some (.slice (some ⟨sg, 0, none⟩) R.length R.length) ∧ w.cell? ⟨b, 8, none⟩ = some (.pointer (some ⟨ip.x, 0, none⟩)) := by
  obtain ⟨cs, h1, h2, h3⟩ := h.hd
  rw [cell_row h1, cell_row h1]
  exact ⟨h2, h3⟩
theorem Fd.blt (h : Fd w b sg ip M R) : b < w.heap.size := by obtain ⟨cs, h1, _⟩ := h.hd; exact row_lt h1
theorem Fd.seat (h : Fd w b sg ip M R) {i : Nat} (hi : i < R.length) : w.cell? ⟨sg, i * 3, none⟩ = some (.int .u32 ((rd R i).i : Int)) ∧ w.cell? ⟨sg, i * 3 + 1, none⟩ = some (.int .i64 ((rd R i).s : Int)) ∧ w.cell? ⟨sg, i * 3 + 2, none⟩ = some (.int .i64 (rd R i).u) := by
  rw [cell_row h.row, cell_row h.row, cell_row h.row]
  exact bgs_get hi
theorem box3 {w : World} {g : Nat} {t : TypeId} {x y z : Value} (h : w.heap[g]? = some (.cells [x, y, z].toArray t (0, 0))) : w.cell? ⟨g, 0, none⟩ = some x ∧ w.cell? ⟨g, 1, none⟩ = some y ∧ w.cell? ⟨g, 2, none⟩ = some z ∧ (∀ j, w.frozen? ⟨g, j, none⟩ = false) :=
  ⟨cell_row h 0, cell_row h 1, cell_row h 2, fun j => free_row h j⟩
theorem Tryz.size108 : (Tryz.prog.info? 108).map (·.size) = some 3 := by kernel_rfl
theorem row3 (w : World) {g : Nat} {t : TypeId} {x y z : Value} (h : w.heap[g]? = some (.cells [x, y, z].toArray t (0, 0))) (a b c : Value) :
    (((w.setCell ⟨g, 0, none⟩ a).setCell ⟨g, 1, none⟩ b).setCell ⟨g, 2, none⟩ c).heap[g]? = some (.cells [a, b, c].toArray t (0, 0)) ∧ w.grownBy (((w.setCell ⟨g, 0, none⟩ a).setCell ⟨g, 1, none⟩ b).setCell ⟨g, 2, none⟩ c) (some g) :=
  ⟨row_setCell (row_setCell (row_setCell h 0 a) 1 b) 2 c, grown_trans (grown_trans (grown_setCell w g 0 a) (grown_setCell _ g 1 b)) (grown_setCell _ g 2 c)⟩
theorem load_bg {w : World} {g : Nat} {x : Bg} (hb : w.heap[g]? = some (.cells (bgc x).toArray 108 (0, 0))) : (loadVar 108 ⟨g, 0, none⟩).run Tryz.prog w = .ok (bgV x) w := by
  have h1 : w.rangeAt g 0 (bgc x) := fun j v hv => by rw [Nat.zero_add, cell_row hb]; exact hv
  exact run_loadVar_mid w g 0 108 (bgc x) _ h1 Tryz.underlying108 rfl (by rw [Tryz.size108]; rfl)
theorem results_cell_tmp1 {fn : Func} {p u : Tmp} {ty : TypeId} (h : fn.results = #[.cell p ty, .tmp u]) (tmps : Array Value) (P : Program) (w : World) :
    (results fn tmps).run P w =
      ((asAddr (tmps.getD p undef)).run P w).andThen fun a w₁ => ((loadVar ty a).run P w₁).andThen fun v w₂ => .ok (.tuple #[v, tmps.getD u undef]) w₂ := by
  simp only [results, h]
  simp [Sem.run_bind, Result.andThen]
theorem results_bg {fn : Func} {p u : Tmp} (h : fn.results = #[.cell p 108, .tmp u]) (tmps : Array Value) (w : World) (g : Nat) (x : Bg) (v : Value) (hp : tmps.getD p undef = .pointer (some ⟨g, 0, none⟩)) (hb : w.heap[g]? = some (.cells (bgc x).toArray 108 (0, 0))) (hv : tmps.getD u undef = v) :
    (results fn tmps).run Tryz.prog w = .ok (.tuple #[bgV x, v]) w := by
  rw [results_cell_tmp1 h, hp, hv]
  simp [asAddr, load_bg hb, Result.andThen]
set_option maxHeartbeats 2000000 in
theorem find_any (h : Fd w b sg ip M R) (k : Nat) (hk : k < 4294967296) : Calls Tryz.prog 107 #[.pointer (some ⟨b, 0, none⟩), .int .u32 (k : Int)] w fun e w' => e = .returned (.tuple #[bgV (fn M R k), .int .i64 (if (Ix.lk M k).isSome then 0 else 171)]) ∧ Fd w' b sg ip M R ∧ Kept w w' ip.own := by
  have C : Hid (∀ W, w.grownBy W none → Calls Tryz.prog 137 #[.pointer (some ⟨ip.x, 0, none⟩), .int .u32 (k : Int)] W fun e w' => e = .returned (.tuple #[.int .i64 ((Ix.lk M k).getD 0), .bool (Ix.lk M k).isSome]) ∧ Fd w' b sg ip M R ∧ Kept W w' ip.own) := by
    intro W hW
    obtain ⟨lo, h3⟩ := (h.then hW).ix
    refine (Ix.get_io h3 k hk).mono ?_
    rintro e w' ⟨rfl, h4, h5⟩
    have h6 := h.then hW
    obtain ⟨cs, c1, c2⟩ := h6.hd
    exact ⟨rfl, ⟨⟨cs, h5.at c1 h.nb, c2⟩, h5.at h6.row h.ns, ⟨true, h4⟩, h.in_, h.rb, h.nb, h.ns⟩, h5⟩
  obtain ⟨c7, c8⟩ := h.cells
  have hbne : ¬ b = w.heap.size := by have := h.blt; omega
  have x8 : ∀ o, (w.alloc o).cell? ⟨b, 8, none⟩ = some (.pointer (some ⟨ip.x, 0, none⟩)) := fun o => (grown_alloc w o).cell c8 (by simp)
  have hown : ∀ i, ip.own i → i < w.heap.size := by obtain ⟨lo, h3⟩ := h.ix; exact h3.lt
  have HO : Hid (∀ W : World, Fd W b sg ip M R → Kept (w.alloc (.cells #[.int .u32 0, .int .i64 0, .int .i64 0] 108)) W ip.own → W.heap[w.heap.size]? = some (.cells [Value.int .u32 0, .int .i64 0, .int .i64 0].toArray 108 (0, 0)) ∧ ∀ W', W.grownBy W' (some w.heap.size) → Fd W' b sg ip M R ∧ Kept w W' ip.own) := by
    intro W hF hW
    refine ⟨hW.at (heap_alloc_new w _) (fun e => Nat.lt_irrefl _ (hown _ e)), fun W' hg => ?_⟩
    have k1 : Kept W W' (fun i => i = w.heap.size) := Kept.of hg (fun _ e _ => (Option.some.inj e).symm)
    refine ⟨hF.far k1 hbne (fun e => ?_) (fun i hi e => ?_), ((Kept.new (grown_alloc w _) _).trans hW (fun _ _ e => e)).trans k1 (fun i hi e => absurd hi (by rw [e]; exact Nat.lt_irrefl _))⟩
    · have := row_lt h.row; omega
    · have := hown i hi; omega
  cases hq : Ix.lk M k with
  | none =>
    rw [hq] at C
    have e1 : fn M R k = ⟨0, 0, 0⟩ := by unfold fn; rw [hq]; rfl
    rw [e1]
    simp only [Option.isSome, Option.getD, Bool.false_eq_true, if_false] at C ⊢
    clear h c7 c8 hq e1
    go_enter Tryz.func107, Tryz.ntmps107
    go_wp2_with fail
    refine (C.out _ (grown_alloc w _)).mono ?_
    rintro e w1 ⟨rfl, h1, h2⟩
    obtain ⟨h3, h4⟩ := HO.out w1 h1 h2
    obtain ⟨d0, d1, d2, d3⟩ := box3 h3
    have HR := hide (And.intro h3 h4)
    clear h1 h2 x8 h3 h4 HO C
    go_wp2
    obtain ⟨r1, r2⟩ := row3 w1 HR.out.1 (.int .u32 0) (.int .i64 0) (.int .i64 0)
    exact bodyPost_ret (results_bg rfl _ _ w.heap.size ⟨0, 0, 0⟩ (.int .i64 171) rfl r1 rfl) rfl ⟨rfl, HR.out.2 _ r2⟩
  | some s =>
    rw [hq] at C
    have hm : (k, s) ∈ M := by obtain ⟨lo, h3⟩ := h.ix; exact (Ix.lk_some h3.asc).1 hq
    obtain ⟨s0, s1⟩ := h.in_ _ hm
    simp only at s0 s1
    have e1 : fn M R k = rd R s.toNat := by unfold fn; rw [hq]; rfl
    rw [e1]
    obtain ⟨t, rfl⟩ : ∃ t : Nat, s = (t : Int) := ⟨s.toNat, by omega⟩
    simp only [Option.isSome, Option.getD, if_true, Int.toNat_natCast] at C s1 ⊢
    have hrb := h.rb
    have HS : Hid (∀ W : World, Fd W b sg ip M R → W.cell? ⟨b, 7, none⟩ = some (.slice (some ⟨sg, 0, none⟩) R.length R.length) ∧ W.cell? ⟨sg, t * 3, none⟩ = some (.int .u32 ((rd R t).i : Int)) ∧ W.cell? ⟨sg, t * 3 + 1, none⟩ = some (.int .i64 ((rd R t).s : Int)) ∧ W.cell? ⟨sg, t * 3 + 2, none⟩ = some (.int .i64 (rd R t).u)) := fun W hW => ⟨hW.cells.1, hW.seat s1⟩
    clear h c7 c8 hq e1 hm s0
    generalize R.length = n at *
    generalize rd R t = x at *
    obtain ⟨xi, xs, xu⟩ := x
    simp only at HS
    go_enter Tryz.func107, Tryz.ntmps107
    go_wp2_with fail
    refine (C.out _ (grown_alloc w _)).mono ?_
    rintro e w1 ⟨rfl, h1, h2⟩
    obtain ⟨h3, h4⟩ := HO.out w1 h1 h2
    obtain ⟨d0, d1, d2, d3⟩ := box3 h3
    obtain ⟨y0, y1, y2, y3⟩ := HS.out w1 h1
    have HR := hide (And.intro h3 h4)
    clear h1 h2 x8 h3 h4 HO C HS
    go_wp2
    obtain ⟨r1, r2⟩ := row3 w1 HR.out.1 (.int .u32 (xi : Int)) (.int .i64 (xs : Int)) (.int .i64 xu)
    exact bodyPost_ret (results_bg rfl _ _ w.heap.size ⟨xi, xs, xu⟩ (.int .i64 0) rfl r1 rfl) rfl ⟨rfl, HR.out.2 _ r2⟩
set_option maxHeartbeats 2000000 in
theorem untilOf_any (h : Fd w b sg ip M R) (k : Nat) (hk : k < 4294967296) : Calls Tryz.prog 105 #[.pointer (some ⟨b, 0, none⟩), .int .u32 (k : Int)] w fun e w' => e = .returned (.int .i64 (tl M R k)) ∧ Fd w' b sg ip M R ∧ Kept w w' ip.own := by
  have C := hide (find_any h k hk)
  rw [← fn_u]
  clear h
  generalize (if (Ix.lk M k).isSome = true then (0 : Int) else 171) = er at *
  generalize fn M R k = x at *
  obtain ⟨xi, xs, xu⟩ := x
  unfold bgV at C
  simp only at C ⊢
  go_enter Tryz.func105, Tryz.ntmps105
  go_wp2_with fail
  refine C.out.mono ?_
  rintro e w1 ⟨rfl, h1, h2⟩
  have HR := hide (And.intro h1 h2)
  clear h1 h2 C
  go_wp2
  go_ret
  exact ⟨rfl, HR.out.1.then (grown_alloc _ _), HR.out.2.trans (Kept.new (grown_alloc _ _) _) (fun _ _ e => e)⟩
end
end Go.Proofs.YtinkkocleognbaaGreatDoor
/- A map keyed by ints, as what it answers at each key: plain lemmas, over any program. -/
namespace Go.Proofs.YtinkkocleognbaaGreatDoor.Hp
open Go.RowKit Go.Maps Go.MapKept Go.ChangeMaps

/-- An element is held as it is. -/
def valR (v : Value) : Option (DataW Value × List MemPlace) := some (.held v, [])
/-- Block b is a map of at most n entries that answers f. -/
def MapAt (w : World) (P : Program) (k : TypeId) (b n : Nat) (f : Int → Option Value) : Prop :=
  ∃ D : DataW Value, w.ownsMap P k valR b n D ∧ ∀ x, (f x = none → Maps.has D (.int .i64 x) = false) ∧ (∀ v, f x = some v → Maps.has D (.int .i64 x) = true ∧ ∀ z, D.atKey (.int .i64 x) z = .held v)

variable {P : Program} {k : TypeId} {w : World} {b n : Nat} {f : Int → Option Value}
theorem MapAt.lt (h : MapAt w P k b n f) : b < w.heap.size := by obtain ⟨D, h, _⟩ := h; exact h.lt
theorem MapAt.mono (h : MapAt w P k b n f) {n' : Nat} (hn : n ≤ n') : MapAt w P k b n' f := by
  obtain ⟨D, h, hf⟩ := h; exact ⟨D, h.mono hn, hf⟩
theorem MapAt.block (h : MapAt w P k b n f) : ∃ es clock, w.heap[b]? = some (.map es clock) := by
  obtain ⟨D, ⟨es, clock, h, _⟩, _⟩ := h; exact ⟨es, clock, h⟩
theorem MapAt.same (h : MapAt w P k b n f) {w' : World} (hb : w'.heap[b]? = w.heap[b]?) : MapAt w' P k b n f := by
  obtain ⟨D, ⟨es, clock, h1, h2⟩, hf⟩ := h; exact ⟨D, ⟨es, clock, hb.trans h1, h2⟩, hf⟩
theorem MapAt.moved (h : MapAt w P k b n f) {w' : World} {b' : Nat} (hb : w'.heap[b']? = w.heap[b]?) : MapAt w' P k b' n f := by
  obtain ⟨D, ⟨es, clock, h1, h2⟩, hf⟩ := h; exact ⟨D, ⟨es, clock, hb.trans h1, h2⟩, hf⟩
theorem mapAt_made {b : Nat} {clock : Nat} (h : w.heap[b]? = some (.map #[] clock)) : MapAt w P k b 0 (fun _ => none) := by
  refine ⟨.map [], ⟨#[], clock, h, ⟨by simp, stamped_empty _, by simp⟩, Nat.le_refl _, rfl⟩, fun x => ⟨fun _ => rfl, fun v h => by cases h⟩⟩

theorem MapAt.look {t e : TypeId} (h : MapAt w P k b n f) (hk : P.underlying k = some (.int .i64)) (ht : P.underlying t = some (.map k e)) {z : Value} (hz : (zeroValue e).run P w = .ok z w) {x : Int} (hx : (Lit.int .i64 x).wf = true) :
    (Instr.lookup t (.map (some b)) (.int .i64 x) true).run P w = .ok (.tuple #[(f x).getD z, .bool (f x).isSome]) w := by
  obtain ⟨D, hD, hf⟩ := h
  obtain ⟨v, ps, hrun, hv⟩ := hD.look_ok (int_keyed hk) ht hz (zd := .held z) (zp := []) rfl (keyOf_int_mk hk hx)
  rw [hrun]
  cases hfx : f x with
  | none =>
    rw [(hf x).1 hfx]
    rw [atKey_of_not_has ((hf x).1 hfx)] at hv
    simp [valR] at hv
    simp [hv]
  | some u =>
    obtain ⟨h1, h2⟩ := (hf x).2 u hfx
    rw [h1]
    rw [h2] at hv
    simp [valR] at hv
    simp [hv]

theorem lit_ne {x y : Int} (h : x ≠ y) : Lit.int .i64 x ≠ Lit.int .i64 y := fun e => by cases e; exact h rfl

theorem MapAt.store {t e : TypeId} (h : MapAt w P k b n f) (hk : P.underlying k = some (.int .i64)) (ht : P.underlying t = some (.map k e)) (hn : n < maxLen) {x : Int} (hx : (Lit.int .i64 x).wf = true) (val : Value) :
    ∃ w', (Instr.mapUpdate t (.map (some b)) (.int .i64 x) val).run P w = .ok () w' ∧ MapAt w' P k b (n + 1) (fun y => if y = x then some val else f y) ∧ w.grownBy w' (some b) := by
  obtain ⟨D, hD, hf⟩ := h
  obtain ⟨w', hrun, hD', hg⟩ := hD.update (int_keyed hk) ht hn (keyOf_int_mk hk hx) (val := val) (d := .held val) (ps := []) rfl
  refine ⟨w', hrun, ⟨_, hD', fun y => ?_⟩, hg⟩
  have hK : WideAt.IsKeyLit (.int .i64 x) := by trivial
  by_cases hy : y = x
  · subst hy
    refine ⟨fun h => by simp at h, fun v h => ?_⟩
    simp at h
    subst h
    exact ⟨has_put_same hD.isMap hK _, fun z => atKey_put_same hD.isMap hK _ z⟩
  · show ((if y = x then some val else f y) = none → _) ∧ ∀ v, (if y = x then some val else f y) = some v → _
    rw [if_neg hy, has_put_other (lit_ne hy)]
    refine ⟨(hf y).1, fun v h => ⟨((hf y).2 v h).1, fun z => ?_⟩⟩
    rw [atKey_put_other (lit_ne hy)]
    exact ((hf y).2 v h).2 z

end Go.Proofs.YtinkkocleognbaaGreatDoor.Hp
/- What stays; a map's delete; what less is. -/
namespace Go.Proofs.YtinkkocleognbaaGreatDoor.Hp
open Go.RowKit

open Go.Maps Go.MapKept Go.ChangeMaps in
theorem MapAt.drop {P : Program} {k : TypeId} {w : World} {b n : Nat} {f : Int → Option Value} {t e : TypeId} (h : MapAt w P k b n f) (hk : P.underlying k = some (.int .i64)) (ht : P.underlying t = some (.map k e)) {x : Int} (hx : (Lit.int .i64 x).wf = true) (ty : TypeId) :
    ∃ w', (Builtin.delete_ #[t, k] ty #[.map (some b), .int .i64 x]).run P w = .ok (.tuple #[]) w' ∧ MapAt w' P k b n (fun y => if y = x then none else f y) ∧ w.grownBy w' (some b) := by
  obtain ⟨D, hD, hf⟩ := h
  obtain ⟨w', hrun, hD', hg⟩ := hD.drop (int_keyed hk) ht (keyOf_int_mk hk hx) ty
  refine ⟨w', hrun, ⟨_, hD', fun y => ?_⟩, hg.grown⟩
  by_cases hy : y = x
  · subst hy
    exact ⟨fun _ => has_del_same, fun v h => by simp at h⟩
  · show ((if y = x then none else f y) = none → _) ∧ ∀ v, (if y = x then none else f y) = some v → _
    rw [if_neg hy, has_del_other (lit_ne hy)]
    refine ⟨(hf y).1, fun v h => ⟨((hf y).2 v h).1, fun z => ?_⟩⟩
    rw [atKey_del_other (lit_ne hy)]
    exact ((hf y).2 v h).2 z
theorem MapAt.congr {P : Program} {k : TypeId} {w : World} {b n : Nat} {f g : Int → Option Value} (h : MapAt w P k b n f) (e : ∀ x, f x = g x) : MapAt w P k b n g := by
  rw [← show f = g from funext e]; exact h

/-- A less that is kept: its function, what it holds, what it answers, of which items it may be asked, what must be so, the blocks it looks at, those that it may write. -/
structure Les where
  k : Nat
  cap : Array Value
  lt : Int → Int → Bool
  ok : Int → Prop
  I : World → Prop
  F : Nat → Prop
  S : Nat → Prop
structure Les.Ok (L : Les) : Prop where
  kind : L.k = 104 ∧ ∃ a, L.cap = #[.pointer (some a)]
  call : ∀ a b w, L.I w → L.ok a → L.ok b → Calls Tryz.prog L.k (#[.int .u32 a, .int .u32 b] ++ L.cap) w fun e w' => e = .returned (.bool (L.lt a b)) ∧ L.I w' ∧ Kept w w' L.S
  keep : ∀ (w w' : World) (X : Nat → Prop), L.I w → Kept w w' X → (∀ i, X i → ¬ L.F i) → L.I w'
  below : ∀ (w : World) i, L.I w → L.F i → i < w.heap.size
  sub : ∀ i, L.S i → L.F i
def Les.fv (L : Les) : Value := .func (.func L.k) #[] L.cap
/-- The heap's own cells. -/
def hpc (L : Les) (h : Nat) (N : Int) (ve vl : Value) (mb : Nat) : List Value := [.pointer (some ⟨h, 0, none⟩), L.fv, .bool false, .int .i64 N, ve, vl, .map (some mb)]
theorem idle_any (p : Addr) (h : Nat) (w : World) (hp : w.cell? p = some (.pointer (some ⟨h, 0, none⟩))) (hc : ∃ v, w.cell? ⟨h, 2, none⟩ = some v) (hz : w.frozen? ⟨h, 2, none⟩ = false) :
    CallsD Tryz.prog 185 #[.pointer (some p)] .returning w fun e u' w' => e = .returned (.tuple #[]) ∧ u' = .returning ∧ w' = w.setCell ⟨h, 2, none⟩ (.bool false) := by
  obtain ⟨v, hc⟩ := hc
  refine callsD_of_wpS Tryz.func185 rfl fun c₀ cs hu => ?_
  apply wpS_seq
  apply wpS_region
  simp [wpOpsS, go_sem, recoverD, hu, Tryz.ntmps185, Exit.thenS, hp, hc, hz]
  apply wpS_region
  cases c₀
  simp_all [wpOpsS, go_sem, recoverD, bodyPostS, results, Tryz.results185]
end Go.Proofs.YtinkkocleognbaaGreatDoor.Hp
/- less, asked. -/
namespace Go.Proofs.YtinkkocleognbaaGreatDoor.Hp
open Go.RowKit
attribute [local go_sem ↓] Go.wp_at_zero Go.wp_at_succ
set_option maxHeartbeats 2000000 in
theorem ask_any (L : Les) (hL : L.Ok) (h : Nat) (N : Int) (ve vl : Value) (mb : Nat) (a b : Int) (w : World) (hh : w.heap[h]? = some (.cells (hpc L h N ve vl mb).toArray 198 (0, 0))) (hI : L.I w) (ha : L.ok a) (hb : L.ok b) (hF : ¬ L.F h) :
    Calls Tryz.prog 176 #[.pointer (some ⟨h, 0, none⟩), .int .u32 a, .int .u32 b] w fun e w' => e = .returned (.bool (L.lt a b)) ∧ L.I w' ∧ Kept w w' L.S := by
  have hmf : ∀ (fn : Fn) (first cap : Array Value) (w : World), (Instr.makeFunc fn first cap).run Tryz.prog w = .ok (.func fn first cap) w := fun _ _ _ _ => rfl
  have ga := World.grownBy_alloc w (.cells #[.pointer (some ⟨h, 0, none⟩)] 34) none
  have hne : ¬ h = w.heap.size := by have := row_lt hh; omega
  have hh1 := (ga.block _ (row_lt hh) (by simp)).trans hh
  have c1 : (w.alloc (.cells #[.pointer (some ⟨h, 0, none⟩)] 34)).cell? ⟨h, 1, none⟩ = some (.func (.func L.k) #[] L.cap) := by rw [cell_row hh1]; rfl
  have c2 : (w.alloc (.cells #[.pointer (some ⟨h, 0, none⟩)] 34)).cell? ⟨h, 2, none⟩ = some (.bool false) := by rw [cell_row hh1]; rfl
  have f2 : (w.alloc (.cells #[.pointer (some ⟨h, 0, none⟩)] 34)).frozen? ⟨h, 2, none⟩ = false := free_row hh1 2
  have HC : Hid (∀ w1, L.I w1 → Calls Tryz.prog L.k (#[.int .u32 a, .int .u32 b] ++ L.cap) w1 fun e w' => e = .returned (.bool (L.lt a b)) ∧ L.I w' ∧ Kept w1 w' L.S) := fun w1 h1 => hL.call a b w1 h1 ha hb
  have HI := hide (And.intro hh (And.intro hI (And.intro hh1 ga)))
  clear hh hI hh1 ga
  have HEnd : Hid (∀ w2 : World, L.I w2 → Kept ((w.alloc (.cells #[.pointer (some ⟨h, 0, none⟩)] 34)).setCell ⟨h, 2, none⟩ (.bool true)) w2 L.S → w2.cell? ⟨w.heap.size, 0, none⟩ = some (.pointer (some ⟨h, 0, none⟩)) ∧ w2.cell? ⟨h, 2, none⟩ = some (.bool true) ∧ w2.frozen? ⟨h, 2, none⟩ = false ∧ L.I (w2.setCell ⟨h, 2, none⟩ (.bool false)) ∧ Kept w (w2.setCell ⟨h, 2, none⟩ (.bool false)) L.S) := by
    intro w2 hI2 hk2
    have hnS : ¬ L.S h := fun e => hF (hL.sub _ e)
    have hnw : ¬ L.S w.heap.size := fun e => by have := hL.below w _ HI.out.2.1 (hL.sub _ e); omega
    have b1 := row_setCell HI.out.2.2.1 2 (.bool true)
    have b2 := hk2.at b1 hnS
    have n1 : ((w.alloc (.cells #[.pointer (some ⟨h, 0, none⟩)] 34)).setCell ⟨h, 2, none⟩ (.bool true)).heap[w.heap.size]? = some (.cells [Value.pointer (some ⟨h, 0, none⟩)].toArray 34 (0, 0)) := (Below.heap_setCell _ _ _ _ (fun e => hne e.symm)).trans (heap_alloc_new w _)
    have n2 := hk2.at n1 hnw
    have b3 := row_setCell b2 2 (.bool false)
    refine ⟨cell_row n2 0, cell_row b2 2, free_row b2 2, hL.keep _ _ _ hI2 (kept_setCell w2 h 2 _) (fun i e => by rw [e]; exact hF), ?_⟩
    have k1 : Kept w (w2.setCell ⟨h, 2, none⟩ (.bool false)) (fun i => L.S i ∨ i = h) := (((Kept.new HI.out.2.2.2 _).trans (kept_setCell _ h 2 (.bool true)) (fun i _ e => .inr e)).trans hk2 (fun i _ e => .inl e)).trans (kept_setCell _ h 2 _) (fun i _ e => .inr e)
    refine ⟨k1.os, k1.tape, k1.output, k1.size, fun i hi hn => ?_⟩
    by_cases e : i = h
    · subst e
      rw [b3, HI.out.1]
      rfl
    · exact k1.block i hi (fun h1 => h1.elim hn e)
  have HIa : Hid (L.I ((w.alloc (.cells #[.pointer (some ⟨h, 0, none⟩)] 34)).setCell ⟨h, 2, none⟩ (.bool true))) := hL.keep _ _ _ HI.out.2.1 ((Kept.new HI.out.2.2.2 (fun i => i = h)).trans (kept_setCell _ h 2 _) (fun _ _ e => e)) (fun i e => by rw [e]; exact hF)
  obtain ⟨e1, p1, e2⟩ := hL.kind
  rw [e1, e2] at c1 HC
  have HC1 : Hid (∀ w1, L.I w1 → Calls Tryz.prog 104 #[.int .u32 a, .int .u32 b, .pointer (some p1)] w1 fun e w' => e = .returned (.bool (L.lt a b)) ∧ L.I w' ∧ Kept w1 w' L.S) := HC
  all_goals
    clear HC e1 e2
    have hc1 := HC1.out _ HIa.out
    go_enter_defers Tryz.func176, Tryz.ntmps176
    go_wp2_with fail
    refine hc1.mono ?_
    clear hc1
    rintro e w2 ⟨rfl, hI2, hk2⟩
    obtain ⟨q1, q2, q3, q4, q5⟩ := HEnd.out w2 hI2 hk2
    have HQ := hide (And.intro q4 q5)
    clear HEnd HIa HI HC1 q4 q5 hk2 hI2
    go_wp2
    refine leaves_cons (f := 185) (args := #[.pointer (some ⟨w.heap.size, 0, none⟩)]) (by simp) (by simp [go_sem]) ?_
    refine (idle_any ⟨w.heap.size, 0, none⟩ h w2 q1 ⟨_, q2⟩ q3).mono ?_
    rintro e u' w3 ⟨rfl, rfl, rfl⟩
    exact ⟨_, results_tmp rfl _ _ _, rfl, HQ.out⟩
end Go.Proofs.YtinkkocleognbaaGreatDoor.Hp
