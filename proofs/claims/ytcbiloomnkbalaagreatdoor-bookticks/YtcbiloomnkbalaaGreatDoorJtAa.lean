/- Texts joined: BkR. -/
import Derived.Test.YtcbiloomnkbalaaGreatDoorJoAx
/- Two books side by side; ticks, numbers alone. -/
namespace Go.Proofs.YtcbiloomnkbalaaGreatDoor
open Go.RowKit
section
variable {w W W' : World} {b c : Nat} {S S' : Sb} {K K' : Nat} {p q q' : Bp} {Bs : List (Nat × List Value × TypeId)}
/-- What another book's call leaves. -/
theorem Lk.beside (h : Lk w W b S K p Bs) (hq : Lk w W c S' K' q Bs) (hd : ∀ i, p.own i → ¬ q.own i) (k : Bst W W' q q') : Lk w W' b S K p Bs ∧ (∀ i, p.own i → ¬ q'.own i) := by
  refine ⟨⟨h.eb, h.bk.far k.kept hd, hq.kept k.kept, h.own, fun x hx => ?_⟩, fun i hi e => ?_⟩
  · obtain ⟨h1, h2, h3⟩ := h.bx x hx
    exact ⟨k.kept.at h1 (hq.bx x hx).2.1, h2, h3⟩
  · rcases k.own i e with e | e
    · exact hd i hi e
    · have := h.bk.lt i hi; omega
theorem Lk.copy2 (h : Lk w W b S K p Bs) (hw : S.Wk) : Calls Tryz.prog 22 #[.pointer (some ⟨b, 0, none⟩)] W fun e w' => ∃ c q, e = .returned (.pointer (some ⟨c, 0, none⟩)) ∧ Lk w w' b S K p Bs ∧ Lk w w' c S 4096 q Bs ∧ (∀ i, p.own i → ¬ q.own i) := by
  refine (h.copy hw).mono ?_
  rintro e w' ⟨q, rfl, h1, h2, h3, h4⟩
  exact ⟨q.b, q, rfl, h2, ⟨rfl, h1, h2.gr, fun i hi => Nat.le_trans h.gr.size (h3 i hi), fun x hx => ⟨(h2.bx x hx).1, fun e => by have := h3 _ e; have := row_lt (h.bx x hx).1; omega, (h2.bx x hx).2.2⟩⟩, h4⟩
theorem Lk.same (h : Lk w W b S K p Bs) (hq : Lk w W c S K' q Bs) (hw : S.Wk) : Calls Tryz.prog 20 #[.pointer (some ⟨b, 0, none⟩), .pointer (some ⟨c, 0, none⟩)] W fun e w' => e = .returned (.bool true) ∧ W.grownBy w' none := by
  have := same_eq h.bk hq.bk hw
  rw [h.eb, hq.eb] at this
  exact this
end
/-- A tick. -/
def tkR (c : Int) : Rc := ⟨5, 0, 0, 0, c⟩
theorem tkR_ok {c : Int} (h0 : -9223372036854775808 ≤ c) (h1 : c ≤ 9223372036854775807) : (tkR c).Ok := ⟨by simp only [tkR]; omega, by simp only [tkR]; omega, by simp only [tkR]; omega, by simp only [tkR]; omega, by simp only [tkR]; omega, by simp only [tkR]; omega, by simp only [tkR]; omega, by simp only [tkR]; omega, h0, h1⟩
theorem tk_may (c : Int) : (tkR c).May ↔ 1 ≤ c ∧ c ≤ mxC := by
  unfold Rc.May tkR
  simp
theorem tk_bad {S : Sb} {c : Int} (h : ¬ (1 ≤ c ∧ c ≤ mxC)) : appE S (tkR c) = 160 := by
  unfold appE; rw [if_pos (fun e => h ((tk_may c).1 e))]
theorem tk_e {S : Sb} {c : Int} (h : 1 ≤ c ∧ c ≤ mxC) : appE S (tkR c) = if c ≤ S.t then 173 else 0 := by
  unfold appE; rw [if_neg (fun e => e ((tk_may c).2 h)), ]; simp [tkR]; rfl
theorem tk_past {S : Sb} {c : Int} (h : 1 ≤ c ∧ c ≤ mxC) (h2 : c ≤ S.t) : appE S (tkR c) = 173 := by rw [tk_e h, if_pos h2]
theorem tk_ok {S : Sb} {c : Int} (h : 1 ≤ c ∧ c ≤ mxC) (h2 : ¬ c ≤ S.t) : appE S (tkR c) = 0 ∧ app S (tkR c) = { S with L := tik S.L c, t := c } := by
  have h0 : appE S (tkR c) = 0 := by rw [tk_e h, if_neg h2]
  refine ⟨h0, ?_⟩
  rw [app_yes h0]
  rfl
theorem tik_tik (L : List Bg) {f l : Int} (h : f < l) : tik (tik L f) l = tik L l := by
  unfold tik
  rw [List.filter_filter]
  apply List.filter_congr
  intro x _
  by_cases h0 : x.u = 0
  · simp [h0]
  · by_cases h1 : l < x.u
    · simp [h1, show f < x.u by omega]
    · simp [h0, h1]
theorem tk_two {S : Sb} {f l : Int} (h : f < l) (hl : 1 ≤ l ∧ l ≤ mxC) (h2 : ¬ l ≤ S.t) : appE (app S (tkR f)) (tkR l) = 0 ∧ app (app S (tkR f)) (tkR l) = app S (tkR l) := by
  by_cases he : appE S (tkR f) = 0
  · have hf : 1 ≤ f ∧ f ≤ mxC := (tk_may f).1 (appE_may he)
    have hf2 : ¬ f ≤ S.t := fun e => by rw [tk_past hf e] at he; cases he
    obtain ⟨e1, e2⟩ := tk_ok hf hf2
    rw [e2]
    obtain ⟨e3, e4⟩ := tk_ok (S := { S with L := tik S.L f, t := f }) hl (by show ¬ l ≤ f; omega)
    refine ⟨e3, ?_⟩
    rw [e4, (tk_ok hl h2).2]
    show Sb.mk _ _ _ _ _ (tik (tik S.L f) l) = _
    rw [tik_tik _ h]
  · rw [app_no he]
    exact ⟨(tk_ok hl h2).1, rfl⟩
theorem fnd_tik {L : List Bg} (hA : AscB L) {x : Bg} (hx : x ∈ L) {c : Int} : fnd (tik L c) x.i = if x.u = 0 ∨ c < x.u then some x else none := by
  have hA' : AscB (tik L c) := hA.filter _
  by_cases h : x.u = 0 ∨ c < x.u
  · rw [if_pos h]
    exact (fnd_some hA').2 ⟨tik_mem.2 ⟨hx, h⟩, rfl⟩
  · rw [if_neg h]
    refine fnd_none.2 (fun y hy e => h ?_)
    obtain ⟨h1, h2⟩ := tik_mem.1 hy
    rw [← hA.same h1 hx e]
    exact h2
theorem tik_snoc (L : List Bg) (x : Bg) (c : Int) : (tik (L ++ [x]) c).length = (tik L c).length + (if x.u = 0 ∨ c < x.u then 1 else 0) := by
  unfold tik
  rw [List.filter_append, List.length_append]
  by_cases h : x.u = 0 ∨ c < x.u
  · rw [if_pos h, List.filter_cons_of_pos (by simpa using h)]; rfl
  · rw [if_neg h, List.filter_cons_of_neg (by simpa using h)]; rfl
end Go.Proofs.YtcbiloomnkbalaaGreatDoor
