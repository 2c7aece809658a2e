/- The contract of ApartFrames. -/
import Derived.Test.YtoeehajdmdmemabDoorX4
namespace Go.Proofs.YtoeehajdmdmemabDoor.Af
open Go.RowKit
open Ap (Kp GrownT)
attribute [local go_sem ↓] Go.wp_at_zero Go.wp_at_succ

theorem own_below {w w' : World} {B B1 n sz : Nat} {e : TypeId} {v : Value} {xs : List Value} (h : w.ownsRow B e sz v n xs) (hb : Below B1 w w') (hw : w.heap.size ≤ B1) : w'.ownsRow B e sz v n xs := by
  refine ⟨h.1, ?_⟩
  rcases h.2 with h1 | ⟨g, cap, cur, h1, h2, h3, h4⟩
  · exact Or.inl h1
  · exact Or.inr ⟨g, cap, cur, h1, h2, (hb.block g (Nat.lt_of_lt_of_le (row_lt h3) hw)).trans h3, h4⟩
theorem lies_of {w : World} {B : Nat} {v : Value} {ys : List El} (h : w.ownsRow B 34 3 v ys.length (fcl ys)) (hs : ∀ y ∈ ys, ∃ bo m k, y.v = .slice bo m k) : ∃ ao c, v = .slice ao ys.length c ∧ Lies w ao ys ∧ ∀ a, ao = some a → a.block < w.heap.size := by
  rcases h.2 with ⟨rfl, h0⟩ | ⟨g, cap, cur, rfl, hb, hg, _⟩
  · exact ⟨none, 0, by rw [h0], (fun j x hx => by have := (List.getElem?_eq_some_iff.1 hx).1; omega), fun a e => by cases e⟩
  · refine ⟨_, cap, rfl, fun j x hx => ?_, fun a e => by cases e; exact row_lt hg⟩
    have hj := (List.getElem?_eq_some_iff.1 hx).1
    obtain ⟨e0, e1, e2⟩ := fcl_at ys j x hx
    rw [Nat.mul_comm] at e0 e1 e2
    exact ⟨g, rfl, by rw [h.cellAt _ (by omega)]; exact e0, by rw [h.cellAt _ (by omega)]; exact e1, by rw [h.cellAt _ (by omega)]; exact e2, hs x (List.mem_of_getElem? hx)⟩
/-- The bodies of the first j lists. -/
def pre (Y : Nat → List El) (j : Nat) : List Value := (List.range j).flatMap fun i => (Y i).map El.v
theorem pre_succ (Y : Nat → List El) (j : Nat) : pre Y (j + 1) = pre Y j ++ (Y j).map El.v := by simp [pre, List.range_succ]
/-- Lists of frames that lie apart, bodies and all. -/
structure Fw (w : World) (B J : Nat) (V : Nat → Value) (Y : Nat → List El) (T : Nat → Prop) : Prop where
  row : ∀ j, j < J → w.ownsRow B 34 3 (V j) (Y j).length (fcl (Y j))
  far : ∀ i k, i < J → k < J → i ≠ k → (V i).ownBlock = none ∨ (V i).ownBlock ≠ (V k).ownBlock
  inT : ∀ j, j < J → ∀ k, (V j).ownBlock = some k → T k
  body : ∀ k, k < (pre Y J).length → ∃ n xs, w.ownsRow B 5 1 ((pre Y J).getD k undef) n xs ∧ n ≤ 32
  apart : ∀ i k, i < k → k < (pre Y J).length → ((pre Y J).getD i undef).ownBlock = none ∨ ((pre Y J).getD i undef).ownBlock ≠ ((pre Y J).getD k undef).ownBlock
  bodyT : ∀ i, i < (pre Y J).length → ∀ k, ((pre Y J).getD i undef).ownBlock = some k → T k
  slices : ∀ j, j < J → ∀ y ∈ Y j, ∃ bo m k, y.v = .slice bo m k
  few : (pre Y J).length ≤ 100000
  short : ∀ j, j < J → (Y j).length ≤ 100000
theorem pre_le (Y : Nat → List El) {i j : Nat} (h : i ≤ j) : (pre Y i).length ≤ (pre Y j).length := by
  induction h with
  | refl => exact Nat.le_refl _
  | step h ih => rw [pre_succ, List.length_append]; omega
theorem map_getD (vs : List Value) : (List.range vs.length).map (fun k => vs.getD k undef) = vs := by
  apply List.ext_getElem?
  intro k
  rw [List.getElem?_map]
  by_cases hk : k < vs.length
  · simp [hk, List.getD_eq_getElem?_getD]
  · simp [hk]
theorem apart_swap {x y : Value} (h : x.ownBlock = none ∨ x.ownBlock ≠ y.ownBlock) : y.ownBlock = none ∨ y.ownBlock ≠ x.ownBlock := by
  rcases h with h | h
  · cases hb : y.ownBlock with
    | none => exact Or.inl rfl
    | some k => right; rw [h]; simp
  · exact Or.inr (fun e => h e.symm)

set_option maxRecDepth 100000 in
set_option maxHeartbeats 2000000 in
theorem apartFrames_any (B J LS cap : Nat) (V : Nat → Value) (Y : Nat → List El) (T : Nat → Prop) (w : World) (hF : Fw w B J V Y T) (hls : ∀ j, j < J → w.cell? ⟨LS, j, none⟩ = some (V j)) (hLS : LS < w.heap.size) (hJ : J ≤ 1000) (hJ0 : 0 < J) (hB : B ≤ w.heap.size) :
    Calls Tryd.prog 9 #[.slice (some ⟨LS, 0, none⟩) J cap] w fun e w' => e = .returned (.bool true) ∧ GrownT T w w' := by
  have HF := hide (And.intro hF hls)
  obtain ⟨b, hb⟩ : ∃ b, b = w.heap.size := ⟨_, rfl⟩
  have Hb := hide hb
  clear hF hls hb
  go_enter Tryd.func9, Tryd.ntmps9
  go_wp2
  rw [← Hb.out]
  go_loopg [4] J (fun q i wr => ∃ (j : Nat) (lsv usv : Value), q + j = J ∧ i = .int .i64 j ∧ Hid (Bag wr b b lsv usv (pre Y j).length j (pre Y j) ((List.range j).map V) ∧ Below b w wr))
  case atStart =>
    have e : w.heap.size = b := Hb.out.symm
    have h1 := heap_alloc_new w (Obj.cells (bagD (.slice none 0 0) (.slice none 0 0)).toArray 68)
    have h2 := Ap.grown_below (World.grownBy_alloc w (Obj.cells (bagD (.slice none 0 0) (.slice none 0 0)).toArray 68) none)
    rw [e] at h1 h2
    exact ⟨0, .slice none 0 0, .slice none 0 0, by omega, rfl, hide ⟨⟨h1, World.ownsRow_nil _ _ _ _, World.ownsRow_nil _ _ _ _, fun _ => rfl, Nat.le_refl _, Nat.le_trans (Nat.le_of_eq e.symm) h2.size⟩, h2⟩⟩
  case round =>
    obtain ⟨j, lsv, usv, hgj, rfl, HR⟩ := hrel
    by_cases hk : 0 < gk
    · have hj : j < J := by omega
      have hjJ : (j : Int) < (J : Int) := by omega
      have hw : w.heap.size ≤ b := Nat.le_of_eq Hb.out.symm
      obtain ⟨ao, c, hv, hL, hA⟩ := lies_of (HF.out.1.row j hj) (HF.out.1.slices j hj)
      have hcl : wr.cell? ⟨LS, j, none⟩ = some (V j) := by
        have h1 := HF.out.2 j hj
        have h2 := HR.out.2.block LS (by omega)
        simp only [World.cell?, h2] at h1 ⊢
        exact h1
      rw [hv] at hcl
      have HP := hide (putFrames_any b b lsv usv (pre Y j).length j (pre Y j) ((List.range j).map V) ao (Y j).length c (Y j) wr HR.out.1 rfl (hL.below HR.out.2 (fun a e => by have := hA a e; omega)) (fun a e => by have := hA a e; omega) (by have h1 := pre_le Y (show j + 1 ≤ J by omega); rw [pre_succ, List.length_append, List.length_map] at h1; have := HF.out.1.few; omega) (by omega))
      have HE : Hid ((pre Y j).length + (Y j).length = (pre Y (j + 1)).length ∧ pre Y j ++ (Y j).map El.v = pre Y (j + 1) ∧ (List.range j).map V ++ [.slice ao (Y j).length c] = (List.range (j + 1)).map V) := ⟨by rw [pre_succ, List.length_append, List.length_map], (pre_succ Y j).symm, by rw [List.range_succ, List.map_append, ← hv]; rfl⟩
      obtain ⟨nj, hnj⟩ : ∃ x, x = (Y j).length := ⟨_, rfl⟩
      rw [← hnj] at hcl HP HE
      clear hv hL hA hnj
      go_wp2_with fail
      refine HP.out.mono ?_
      rintro e w' ⟨rfl, lsv', usv', h1, h2⟩
      rw [HE.out.1, HE.out.2.1, HE.out.2.2] at h1
      have H2 := hide (And.intro h1 (below_trans HR.out.2 h2))
      clear h1 h2 HP HE hcl
      go_wp2
      go_roundg (gk - 1)
      case measure => omega
      case rel => exact ⟨j + 1, lsv', usv', by omega, by go_num, H2⟩
    · have hj : j = J := by omega
      have hjJ : ¬ (j : Int) < (J : Int) := by omega
      have hw : w.heap.size ≤ b := Nat.le_of_eq Hb.out.symm
      obtain ⟨hBag, hbel⟩ := HR.out
      rw [hj] at hBag
      obtain ⟨L2, cap2, hl⟩ := own_some hBag.fs hJ0
      subst hl
      have hF := HF.out.1
      obtain ⟨n, hn⟩ : ∃ n : Nat → Nat, ∀ k, k < (pre Y J).length → ∃ xs, w.ownsRow B 5 1 ((pre Y J).getD k undef) (n k) xs ∧ n k ≤ 32 :=
        ⟨fun k => if h : k < (pre Y J).length then Classical.choose (hF.body k h) else 0, fun k hk => by simp only [hk, dif_pos]; exact Classical.choose_spec (hF.body k hk)⟩
      obtain ⟨f, hf⟩ : ∃ f : Nat → List Value, ∀ k, k < (pre Y J).length → w.ownsRow B 5 1 ((pre Y J).getD k undef) (n k) (f k) :=
        ⟨fun k => if h : k < (pre Y J).length then Classical.choose (hn k h) else [], fun k hk => by simp only [hk, dif_pos]; exact (Classical.choose_spec (hn k hk)).1⟩
      have hF1 : Ap.Fl wr B (pre Y J).length lsv (fun k => (pre Y J).getD k undef) n f := by
        refine ⟨?_, fun k hk => own_below (hf k hk) hbel hw, fun i k hi hk hik => ?_⟩
        · rw [map_getD]; exact Ap.ownsRow_le hBag.bs (by omega)
        · by_cases h : i < k
          · exact hF.apart i k h hk
          · exact apart_swap (hF.apart k i (by omega) hi)
      have hF2 : Fl wr B J (.slice (some ⟨L2, 0, none⟩) J cap2) V (fun j => (Y j).length) (fun j => fcl (Y j)) :=
        ⟨Ap.ownsRow_le hBag.fs (by omega), fun k hk => own_below (hF.row k hk) hbel hw, hF.far⟩
      have hG2 : GrownT T w wr := (GrownT.refl T w).step (Ap.below_grown (by rw [Hb.out] at hbel; exact hbel)) (fun j e => by cases e)
      have HA := hide (apart_any b B (pre Y J).length J L2 cap2 lsv (fun k => (pre Y J).getD k undef) V n (fun j => (Y j).length) f (fun j => fcl (Y j)) T w wr hF1 hBag.z hF2 ⟨hG2, hBag.bag⟩ (fun i hi k e => Or.inr (hF.bodyT i hi k e)) (fun i hi k e => Or.inr (hF.inT i hi k e)) (by have := hF.few; omega) (by omega) (fun k hk => by obtain ⟨_, _, h⟩ := hn k hk; omega) (fun k hk => by have := hF.short k hk; omega) (by have := hBag.Bw; omega))
      clear hBag hbel hF hn hf hF1 hF2 hG2 HF hj HR
      go_wp2_with fail
      refine HA.out.mono ?_
      rintro e w' ⟨rfl, hg⟩
      have HG := hide hg
      clear hg
      go_wp2
      go_ret
      exact ⟨rfl, HG.out⟩
end Go.Proofs.YtoeehajdmdmemabDoor.Af
