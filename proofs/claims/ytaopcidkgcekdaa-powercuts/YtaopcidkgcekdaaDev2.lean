/- A device over a disk: its calls. -/
import Derived.Test.YtaopcidkgcekdaaDev
namespace Go.Proofs.Ytaopcidkgcekdaa
open Go.RowKit Ap
attribute [local go_sem ↓] Go.wp_at_zero Go.wp_at_succ

/-- A device lies at b, over the disk k. -/
structure Dev (w0 w : World) (n size b : Nat) (s : Dv) (k : Dk) (D : List Nat) (W : List Wt) : Prop where
  disk : DkS w0 w k n size D W
  dev : DvAt w b k.d s
  low : w0.heap.size ≤ b
/-- One device, before and after. -/
structure DvM (w w' : World) (b : Nat) (k k' : Dk) (W W' : List Wt) : Prop where
  d : k'.d = k.d
  own : ∀ i, k'.own i → k.own i ∨ w.heap.size ≤ i
  blk : ∀ x ∈ W', (∃ y ∈ W, y.blk = x.blk) ∨ w.heap.size ≤ x.blk
  kept : Kept w w' (fun i => k.own i ∨ i = b)
section
variable {w0 w w' w'' : World} {n size b : Nat} {s : Dv} {k k' k'' : Dk} {D D' : List Nat} {W W' W'' : List Wt}
theorem Dev.off (h : Dev w0 w n size b s k D W) : ¬ foot k W b := by
  rintro (e | ⟨x, hx, rfl⟩)
  · exact h.disk.disk.other_off h.dev.head (by decide) (by decide) (by decide) e
  · have := (h.disk.disk.waits x hx).2.2.2
    have h2 := h.dev.head
    rw [this] at h2
    simp at h2
theorem Dev.then (h : Dev w0 w n size b s k D W) (hg : w.grownBy w' none) : Dev w0 w' n size b s k D W := ⟨h.disk.then hg, h.dev.grown hg, h.low⟩
theorem DvM.refl (w : World) (b : Nat) (k : Dk) (W : List Wt) : DvM w w b k k W W := ⟨rfl, fun _ h => Or.inl h, fun x hx => Or.inl ⟨x, hx, rfl⟩, Kept.refl _ _⟩
theorem DvM.trans (h : DvM w w' b k k' W W') (g : DvM w' w'' b k' k'' W' W'') (_hb : b < w.heap.size) : DvM w w'' b k k'' W W'' := by
  refine ⟨g.d.trans h.d, ?_, ?_, h.kept.trans g.kept ?_⟩
  · intro i hi
    rcases g.own i hi with h1 | h1
    · exact h.own i h1
    · exact Or.inr (Nat.le_trans h.kept.size h1)
  · intro x hx
    rcases g.blk x hx with ⟨y, hy, e⟩ | h1
    · rw [← e]
      exact h.blk y hy
    · exact Or.inr (Nat.le_trans h.kept.size h1)
  · rintro i hi (h1 | h1)
    · rcases h.own i h1 with h2 | h2
      · exact Or.inl h2
      · omega
    · exact Or.inr h1
theorem DvM.new (h : DvM w w' b k k' W W') (g : w'.grownBy w'' none) : DvM w w'' b k k' W W' := ⟨h.d, h.own, h.blk, h.kept.trans (Kept.new g _) (fun _ _ e => e)⟩
theorem DvM.pre (g : w.grownBy w' none) (h : DvM w' w'' b k k' W W') : DvM w w'' b k k' W W' :=
  ⟨h.d, fun i hi => (h.own i hi).imp id (fun e => Nat.le_trans g.size e), fun x hx => (h.blk x hx).imp id (fun e => Nat.le_trans g.size e), (Kept.new g _).trans h.kept (fun _ _ e => e)⟩
theorem Moved.dev (h : Moved w w' k k' W W') : DvM w w' b k k' W W' := ⟨h.d, h.own, h.blk, h.kept.mono (fun _ _ e => Or.inl e)⟩
theorem DvM.row (hg : w.grownBy w' (some b)) : DvM w w' b k k W W := ⟨rfl, fun _ h => Or.inl h, fun x hx => Or.inl ⟨x, hx, rfl⟩, Kept.of hg (fun _ e _ => Or.inr (Option.some.inj e).symm)⟩
/-- The device's own block is written. -/
theorem Dev.dset {s' : Dv} (h : Dev w0 w n size b s k D W) (hg : w.grownBy w' (some b)) (hd : DvAt w' b k.d s') : Dev w0 w' n size b s' k D W :=
  ⟨h.disk.row hg (fun _ hi e => h.off (e ▸ hi)) h.low, hd, h.low⟩
/-- The disk goes on. -/
theorem Dev.dsk (h : Dev w0 w n size b s k D W) (hd : DkS w0 w' k' n size D' W') (hm : Moved w w' k k' W W') : Dev w0 w' n size b s k' D' W' :=
  ⟨hd, by have := h.dev.kept hm.kept (fun e => h.off (.inl e)); rw [← hm.d] at this; exact this, h.low⟩

set_option maxHeartbeats 1000000 in
theorem dwrite_any (h : Dev w0 w n size b s k D W) (hW : W.length ≤ 1000) (hc : s.cnt < 100000) (a : Int) (ao : Option Addr) (L cap : Nat) (xs : List Nat) (hat : At w ao xs) (hx : xs.length = L) :
    Calls Try.prog 27 #[.pointer (some ⟨b, 0, none⟩), .int .i64 a, .slice ao L cap] w fun e w' => e = .returned (.int .i64 (s.code (wcode n size a L))) ∧ ∃ k' W', Dev w0 w' n size b s.next k' D W' ∧ DvM w w' b k k' W W' ∧ abs W' = (if s.goes then wabs n size a xs (abs W) else abs W) ∧ W'.length ≤ W.length + 1 := by
  have H := hide (begin_any h.dev hc)
  have HH := hide (And.intro h (And.intro hW (And.intro hat hx)))
  have hb := h.dev.lt
  unfold Dv.code at H ⊢
  clear h hW hat hx hc
  obtain ⟨g, hgo⟩ : ∃ g, g = s.goes := ⟨_, rfl⟩
  rw [← hgo] at H ⊢
  clear hgo
  generalize s.next = t at *
  cases g with
  | false =>
    go_enter Try.func27, Try.ntmps27
    go_wp2_with fail
    refine H.out.mono ?_
    rintro e w' ⟨rfl, h1, h2⟩
    have H2 := hide (And.intro h1 h2)
    clear h1 h2
    go_wp2
    go_ret
    exact ⟨rfl, k, W, HH.out.1.dset H2.out.2 H2.out.1, DvM.row H2.out.2, by first | rfl | exact ⟨rfl, rfl⟩, by omega⟩
  | true =>
    simp only [if_true] at H ⊢
    go_enter Try.func27, Try.ntmps27
    go_wp2_with fail
    refine H.out.mono ?_
    rintro e w' ⟨rfl, h1, h2⟩
    have H2 := hide (And.intro h1 h2)
    have c0 := h1.c0
    clear h1 h2
    go_wp2_with fail
    have hd2 := HH.out.1.dset H2.out.2 H2.out.1
    refine (wr_disk rfl hd2.disk HH.out.2.1 a ao L cap xs (at_dev HH.out.2.2.1 HH.out.1.dev H2.out.2) HH.out.2.2.2).mono ?_
    rintro e w2 ⟨k2, W2, rfl, g1, g2, g3, g4⟩
    have H3 := hide (And.intro (hd2.dsk g1 g2) (And.intro ((DvM.row H2.out.2).trans (k := k) (W := W) (Moved.dev g2) hb) (And.intro g3 g4)))
    clear g1 g2 g3 g4 hd2
    go_wp2
    go_ret
    exact ⟨rfl, k2, W2, H3.out.1, H3.out.2.1, H3.out.2.2.1, H3.out.2.2.2⟩
/-- What a sync leaves. -/
def syncA (size : Nat) (st : List Nat × List Pr) : List Nat × List Pr := (stlP size (fun _ => size) st.1 st.2 st.2.length, [])
def crashA (size : Nat) (F : List (Int × Int)) (st : List Nat × List Pr) : List Nat × List Pr := (stlP size (fun i => lasts (fateK F i) (fateA F i) size) st.1 st.2 st.2.length, [])
set_option maxHeartbeats 1000000 in
theorem dsync_any (h : Dev w0 w n size b s k D W) (hc : s.cnt < 100000) :
    Calls Try.prog 28 #[.pointer (some ⟨b, 0, none⟩)] w fun e w' => e = .returned (.int .i64 (s.code 0)) ∧ ∃ k' D' W', Dev w0 w' n size b s.next k' D' W' ∧ DvM w w' b k k' W W' ∧ (D', abs W') = (if s.goes then syncA size (D, abs W) else (D, abs W)) ∧ W'.length ≤ W.length := by
  have H := hide (begin_any h.dev hc)
  have HH := hide h
  have hb := h.dev.lt
  unfold Dv.code at H ⊢
  clear h hc
  obtain ⟨g, hgo⟩ : ∃ g, g = s.goes := ⟨_, rfl⟩
  rw [← hgo] at H ⊢
  clear hgo
  generalize s.next = t at *
  cases g with
  | false =>
    go_enter Try.func28, Try.ntmps28
    go_wp2_with fail
    refine H.out.mono ?_
    rintro e w' ⟨rfl, h1, h2⟩
    have H2 := hide (And.intro h1 h2)
    clear h1 h2
    go_wp2
    go_ret
    exact ⟨rfl, k, D, W, HH.out.dset H2.out.2 H2.out.1, DvM.row H2.out.2, by first | rfl | exact ⟨rfl, rfl⟩, by omega⟩
  | true =>
    simp only [if_true] at H ⊢
    go_enter Try.func28, Try.ntmps28
    go_wp2_with fail
    refine H.out.mono ?_
    rintro e w' ⟨rfl, h1, h2⟩
    have H2 := hide (And.intro h1 h2)
    have c0 := h1.c0
    clear h1 h2
    go_wp2_with fail
    have hd2 := HH.out.dset H2.out.2 H2.out.1
    refine (syncS rfl hd2.disk).mono ?_
    rintro e w2 ⟨rfl, g1, g2⟩
    have H3 := hide (And.intro (hd2.dsk g1 (calm_moved g2)) ((DvM.row H2.out.2).trans (k := k) (W := W) (Moved.dev (calm_moved g2)) hb))
    clear g1 g2 hd2
    go_wp2
    go_ret
    exact ⟨rfl, k.calm, _, [], H3.out.1, H3.out.2, by rw [syncA, stl_abs, abs_length]; rfl, by simp⟩
/-- Bytes that a call has told. -/
def Gives (w w' : World) (size : Nat) (v : Value) (xs : List Nat) : Prop := (v = .slice none 0 0 ∧ xs = []) ∨ ∃ g, v = .slice (some ⟨g, 0, none⟩) size size ∧ w.heap.size ≤ g ∧ w'.heap[g]? = some (.cells (bv xs).toArray 5 (0, 0)) ∧ xs.length = size
def rcode (n : Nat) (a : Int) : Int := if 0 ≤ a ∧ a < (n : Int) then 0 else 50
def rbytes (n size : Nat) (D : List Nat) (W : List Wt) (a : Int) : List Nat := if 0 ≤ a ∧ a < (n : Int) then found size D W a.toNat else []
theorem rd_disk {d : Nat} (hd : k.d = d) (h : DkS w0 w k n size D W) (a : Int) : Calls Try.prog 37 #[.pointer (some ⟨d, 0, none⟩), .int .i64 a] w fun e w' =>
    ∃ v, e = .returned (.tuple #[v, .int .i64 (rcode n a)]) ∧ Gives w w' size v (rbytes n size D W a) ∧ w.grownBy w' none := by
  subst hd
  by_cases ha : 0 ≤ a ∧ a < (n : Int)
  · obtain ⟨i, rfl⟩ := Int.eq_ofNat_of_zero_le ha.1
    have hi : i < n := by omega
    refine (read_any h.disk i hi).mono ?_
    rintro e w' ⟨rfl, h1, h2⟩
    refine ⟨_, by rw [rcode, if_pos ha], ?_, h2⟩
    rw [rbytes, if_pos ha, Int.toNat_natCast]
    exact Or.inr ⟨w.heap.size, rfl, Nat.le_refl _, h1, found_length h.disk.len h.disk.fitsW i hi⟩
  · refine (read_far h.disk a ha).mono ?_
    rintro e w' ⟨rfl, h2⟩
    refine ⟨_, by rw [rcode, if_neg ha], ?_, h2⟩
    rw [rbytes, if_neg ha]
    exact Or.inl ⟨rfl, rfl⟩
theorem Gives.later {w1 w2 w3 : World} {v : Value} {xs : List Nat} (h : Gives w1 w2 size v xs) (hl : w.heap.size ≤ w1.heap.size) (hg : w2.grownBy w3 none) : Gives w w3 size v xs := by
  rcases h with h | ⟨g, h1, h2, h3, h4⟩
  · exact Or.inl h
  · exact Or.inr ⟨g, h1, by omega, (hg.block g (row_lt h3) (by simp)).trans h3, h4⟩
set_option maxHeartbeats 1000000 in
theorem dread_any (h : Dev w0 w n size b s k D W) (hc : s.cnt < 100000) (a : Int) :
    Calls Try.prog 26 #[.pointer (some ⟨b, 0, none⟩), .int .i64 a] w fun e w' => ∃ v, e = .returned (.tuple #[v, .int .i64 (s.code (rcode n a))]) ∧ Gives w w' size v (if s.goes then rbytes n size D W a else []) ∧ Dev w0 w' n size b s.next k D W ∧ DvM w w' b k k W W := by
  have H := hide (begin_any h.dev hc)
  have HH := hide h
  have hb := h.dev.lt
  unfold Dv.code at H ⊢
  clear h hc
  obtain ⟨g, hgo⟩ : ∃ g, g = s.goes := ⟨_, rfl⟩
  rw [← hgo] at H ⊢
  clear hgo
  generalize s.next = t at *
  cases g with
  | false =>
    go_enter Try.func26, Try.ntmps26
    go_wp2_with fail
    refine H.out.mono ?_
    rintro e w' ⟨rfl, h1, h2⟩
    have H2 := hide (And.intro h1 h2)
    clear h1 h2
    go_wp2
    go_ret2
    exact ⟨_, rfl, Or.inl ⟨rfl, rfl⟩, HH.out.dset H2.out.2 H2.out.1, DvM.row H2.out.2⟩
  | true =>
    simp only [if_true] at H ⊢
    go_enter Try.func26, Try.ntmps26
    go_wp2_with fail
    refine H.out.mono ?_
    rintro e w' ⟨rfl, h1, h2⟩
    have H2 := hide (And.intro h1 h2)
    have c0 := h1.c0
    clear h1 h2
    go_wp2_with fail
    have hd2 := HH.out.dset H2.out.2 H2.out.1
    refine (rd_disk rfl hd2.disk a).mono ?_
    rintro e w2 ⟨v, rfl, g1, g2⟩
    have H3 := hide (And.intro g1 (And.intro (hd2.then g2) ((DvM.row (k := k) (W := W) H2.out.2).new g2)))
    have hsz := H2.out.2.size
    clear g1 g2 hd2
    go_wp2
    go_ret2
    exact ⟨v, rfl, H3.out.1.later hsz (grown_refl _ _), H3.out.2.1, H3.out.2.2⟩
/-- Come again. -/
def Dv.anew : Dv := ⟨false, -1, 0⟩
theorem FatesAt.row {fo : Option Addr} {F : List (Int × Int)} {r : Nat} (h : FatesAt w fo F) (hg : w.grownBy w' (some r)) (hr : ∀ a, fo = some a → 0 < F.length → a.block ≠ r) : FatesAt w' fo F :=
  h.kept2 hg (fun a e hl e2 => hr a e hl (Option.some.inj e2))
set_option maxHeartbeats 1000000 in
theorem restart_any (h : Dev w0 w n size b s k D W) (fo : Option Addr) (m cap : Nat) (F : List (Int × Int)) (hm : F.length = m) (hF : FatesAt w fo F) (hfo : ∀ a, fo = some a → 0 < F.length → a.block ≠ k.db ∧ a.block ≠ b) :
    Calls Try.prog 19 #[.pointer (some ⟨b, 0, none⟩), .slice fo m cap] w fun e w' => e = .returned (.int .i64 0) ∧ ∃ D', Dev w0 w' n size b Dv.anew k.calm D' [] ∧ DvM w w' b k k.calm W [] ∧ (D', abs []) = crashA size F (D, abs W) := by
  have H := hide h.dev.is
  have c0 := h.dev.c0
  have f2 := h.dev.free 2
  have f3 := h.dev.free 3
  have f4 := h.dev.free 4
  have c2 := h.dev.c2
  have c3 := h.dev.c3
  have c4 := h.dev.c4
  have HH := hide (And.intro h (And.intro hm (And.intro hF hfo)))
  have hb := h.dev.lt
  clear h hm hF hfo
  go_enter Try.func19, Try.ntmps19
  go_wp2_with fail
  refine H.out.mono ?_
  rintro e w' ⟨rfl, rfl⟩
  go_wp2_with fail
  have r1 := row_setCell HH.out.1.dev.head 2 (.bool false)
  have r2 := row_setCell r1 3 (.int .i64 (-1))
  have r3 := row_setCell r2 4 (.int .i64 0)
  have gg := grown_then (grown_then (grown_setCell w' b 2 (.bool false)) (grown_setCell _ b 3 (.int .i64 (-1))) (fun j e => Or.inr e)) (grown_setCell _ b 4 (.int .i64 0)) (fun j e => Or.inr e)
  have dd : DvAt (((w'.setCell ⟨b, 2, none⟩ (.bool false)).setCell ⟨b, 3, none⟩ (.int .i64 (-1))).setCell ⟨b, 4, none⟩ (.int .i64 0)) b k.d Dv.anew := ⟨r3, ⟨by show (-1 : Int) ≤ -1; omega, by show (-1 : Int) ≤ _; omega, by show 0 ≤ _; omega⟩⟩
  have H2 := hide (And.intro dd gg)
  clear dd gg r1 r2 r3
  generalize ((w'.setCell ⟨b, 2, none⟩ (.bool false)).setCell ⟨b, 3, none⟩ (.int .i64 (-1))).setCell ⟨b, 4, none⟩ (.int .i64 0) = w2 at *
  have hd2 := HH.out.1.dset H2.out.2 H2.out.1
  refine (crash2 rfl hd2.disk fo m cap F HH.out.2.1 (HH.out.2.2.1.row H2.out.2 (fun a e hl => (HH.out.2.2.2 a e hl).2)) (fun a e hl => (HH.out.2.2.2 a e hl).1)).mono ?_
  rintro e w3 ⟨rfl, g1, g2⟩
  have H3 := hide (And.intro (hd2.dsk g1 (calm_moved g2)) ((DvM.row H2.out.2).trans (k := k) (W := W) (Moved.dev (calm_moved g2)) hb))
  clear g1 g2 hd2
  go_wp2
  go_ret
  exact ⟨rfl, _, H3.out.1, H3.out.2, by rw [crashA, stl_abs, abs_length]; rfl⟩
end
end Go.Proofs.Ytaopcidkgcekdaa
