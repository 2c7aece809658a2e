/- Texts joined: OneC, Dev, Dev2, Dev3, Rg0, Rg1, Rg2. -/
import Derived.Test.YtonokaelbpfjnabGreatDoorJkAd
import Derived.Test.YtonokaelbpfjnabGreatDoorJkAc
/- A call of a disk that is there tells what it should: Write; and all of them. -/
namespace Go.Proofs.YtonokaelbpfjnabGreatDoor
open Go.RowKit Ap
attribute [local go_sem ↓] Go.wp_at_zero Go.wp_at_succ

def wcode (n size : Nat) (a : Int) (L : Nat) : Int := if 0 ≤ a ∧ a < (n : Int) then (if L = size then 0 else 3) else 50
def wabs (n size : Nat) (a : Int) (xs : List Nat) (P : List Pr) : List Pr := if 0 ≤ a ∧ a < (n : Int) then (if xs.length = size then P ++ [(a.toNat, xs)] else P) else P
section
variable {w0 w : World} {n size : Nat} {p : Pr2} {d r : Nat}
theorem wr_disk {k : Dk} {D : List Nat} {W : List Wt} (hd : k.d = d) (h : DkS w0 w k n size D W) (hW : W.length ≤ 900000) (a : Int) (ao : Option Addr) (L cap : Nat) (xs : List Nat) (hat : At w ao xs) (hx : xs.length = L) :
    Calls Tryz.prog 132 #[.pointer (some ⟨d, 0, none⟩), .int .i64 a, .slice ao L cap] w fun e w' => ∃ k' W', e = .returned (.int .i64 (wcode n size a L)) ∧ DkS w0 w' k' n size D W' ∧ Moved w w' k k' W W' ∧ abs W' = wabs n size a xs (abs W) ∧ W'.length ≤ W.length + 1 := by
  by_cases ha : 0 ≤ a ∧ a < (n : Int)
  · by_cases hl : L = size
    · obtain ⟨s, rfl⟩ := Int.eq_ofNat_of_zero_le ha.1
      subst hl
      refine (writeS hd h (by omega) s (by omega) ao cap xs hat hx).mono ?_
      rintro e w' ⟨rfl, k', h1, h2, h3, h4⟩
      refine ⟨k', _, by rw [wcode, if_pos ha, if_pos rfl], h3, h4.moved, ?_, by simp⟩
      rw [wabs, if_pos ha, if_pos hx]
      simp [abs]
    · subst hd
      refine (write_long h.disk a ao L cap ha hl).mono ?_
      rintro e w' ⟨rfl, hg⟩
      exact ⟨k, W, by rw [wcode, if_pos ha, if_neg hl], h.then hg, (Moved.refl w k W).new hg, by rw [wabs, if_pos ha, if_neg (by omega)], by omega⟩
  · subst hd
    refine (write_far h.disk a _ ha).mono ?_
    rintro e w' ⟨rfl, hg⟩
    exact ⟨k, W, by rw [wcode, if_neg ha], h.then hg, (Moved.refl w k W).new hg, by rw [wabs, if_neg ha], by omega⟩
end
end Go.Proofs.YtonokaelbpfjnabGreatDoor
/- A device of package power in memory; its small calls. -/
namespace Go.Proofs.YtonokaelbpfjnabGreatDoor
open Go.RowKit Ap
attribute [local go_sem ↓] Go.wp_at_zero Go.wp_at_succ

/-- What a device knows beside its disk. -/
structure Dv where
  off : Bool
  arm : Int
  cnt : Nat
/-- Is an operation done? -/
def Dv.goes (s : Dv) : Bool := !s.off && decide (s.arm ≠ 0)
/-- What an operation answers, if the disk's answer is c. -/
def Dv.code (s : Dv) (c : Int) : Int := if s.goes then c else 60
def Dv.upc (s : Dv) : Int := if s.off then 60 else 0
/-- Behind an operation. -/
def Dv.next (s : Dv) : Dv := if s.off then s else if s.arm = 0 then ⟨true, -1, s.cnt⟩ else ⟨false, if 0 < s.arm then s.arm - 1 else s.arm, s.cnt + 1⟩
def dcells (d : Nat) (s : Dv) : List Value := [.pointer (some ⟨d, 0, none⟩), .bool true, .bool s.off, .int .i64 s.arm, .int .i64 (s.cnt : Int)]
structure Dv.Ok (s : Dv) : Prop where
  lo : -1 ≤ s.arm
  hi : s.arm ≤ 9223372036854775807
  few : s.cnt ≤ 100000
structure DvAt (w : World) (b d : Nat) (s : Dv) : Prop where
  head : w.heap[b]? = some (.cells (dcells d s).toArray 131 (0, 0))
  ok : s.Ok
theorem Dv.Ok.next {s : Dv} (h : s.Ok) (hc : s.cnt < 100000) : s.next.Ok := by
  unfold Dv.next
  split
  · exact h
  · split
    · exact ⟨by simp, by simp, h.few⟩
    · refine ⟨?_, ?_, ?_⟩
      · have := h.lo; simp only; split <;> omega
      · have := h.hi; simp only; split <;> omega
      · simp only; omega
theorem Dv.next_cnt (s : Dv) : s.next.cnt ≤ s.cnt + 1 := by
  unfold Dv.next
  split
  · omega
  · split
    · simp
    · simp
theorem Dv.goes_off {s : Dv} (h : s.off = true) : s.goes = false ∧ s.next = s := by simp [Dv.goes, Dv.next, h]
theorem Dv.goes_cut {s : Dv} (h : s.off = false) (h0 : s.arm = 0) : s.goes = false ∧ s.next = ⟨true, -1, s.cnt⟩ := by simp [Dv.goes, Dv.next, h, h0]
theorem Dv.goes_on {s : Dv} (h : s.off = false) (h0 : s.arm ≠ 0) : s.goes = true ∧ s.next = ⟨false, if 0 < s.arm then s.arm - 1 else s.arm, s.cnt + 1⟩ := by simp [Dv.goes, Dv.next, h, h0]
section
variable {w w' : World} {b d : Nat} {s : Dv}
theorem DvAt.same (h : DvAt w b d s) (hb : w'.heap[b]? = w.heap[b]?) : DvAt w' b d s := ⟨hb.trans h.head, h.ok⟩
theorem DvAt.lt (h : DvAt w b d s) : b < w.heap.size := row_lt h.head
theorem DvAt.grown (h : DvAt w b d s) (hg : w.grownBy w' none) : DvAt w' b d s := h.same (hg.block b h.lt (by simp))
theorem DvAt.kept {S : Nat → Prop} (h : DvAt w b d s) (hk : Kept w w' S) (hS : ¬ S b) : DvAt w' b d s := h.same (hk.block b h.lt hS)
theorem DvAt.c0 (h : DvAt w b d s) : w.cell? ⟨b, 0, none⟩ = some (.pointer (some ⟨d, 0, none⟩)) := cell_row h.head 0
theorem DvAt.c1 (h : DvAt w b d s) : w.cell? ⟨b, 1, none⟩ = some (.bool true) := cell_row h.head 1
theorem DvAt.c2 (h : DvAt w b d s) : w.cell? ⟨b, 2, none⟩ = some (.bool s.off) := cell_row h.head 2
theorem DvAt.c3 (h : DvAt w b d s) : w.cell? ⟨b, 3, none⟩ = some (.int .i64 s.arm) := cell_row h.head 3
theorem DvAt.c4 (h : DvAt w b d s) : w.cell? ⟨b, 4, none⟩ = some (.int .i64 (s.cnt : Int)) := cell_row h.head 4
theorem DvAt.free (h : DvAt w b d s) (j : Nat) : w.frozen? ⟨b, j, none⟩ = false := free_row h.head j
/-- Bytes lie elsewhere. -/
theorem at_dev {ao : Option Addr} {xs : List Nat} (hat : At w ao xs) (h : DvAt w b d s) (hg : w.grownBy w' (some b)) : At w' ao xs := by
  intro j u hu
  obtain ⟨a, e, hc⟩ := hat j u hu
  refine ⟨a, e, hg.cell hc ?_⟩
  rintro e2
  have e2 : (a.add j).block = b := Option.some.inj e2
  have hsp : (a.add j).spot = none := by
    unfold World.cell? at hc
    split at hc
    · split at hc
      · cases hc
      · rename_i hs; simpa using hs
    · cases hc
  have he : a.add j = ⟨b, (a.add j).off, none⟩ := by
    cases hh : a.add j
    rw [hh] at e2 hsp
    simp at e2 hsp
    subst e2 hsp
    rfl
  rw [he, cell_row h.head] at hc
  generalize (a.add j).off = i at hc
  match i, hc with
  | 0, hc => simp [dcells] at hc
  | 1, hc => simp [dcells] at hc
  | 2, hc => simp [dcells] at hc
  | 3, hc => simp [dcells] at hc
  | 4, hc => simp [dcells] at hc
  | i + 5, hc => simp [dcells] at hc

set_option maxHeartbeats 400000 in
theorem dnone_at (b : Nat) (x : Bool) (w : World) (h : w.cell? ⟨b, 1, none⟩ = some (.bool x)) :
    Calls Tryz.prog 77 #[.pointer (some ⟨b, 0, none⟩)] w fun e w' => e = .returned (.bool (!x)) ∧ w' = w := by
  go_enter Tryz.func77, Tryz.ntmps77
  go_wp2
  go_ret
  exact ⟨rfl, rfl⟩
set_option maxHeartbeats 400000 in
theorem dnone_nil (w : World) :
    Calls Tryz.prog 77 #[.pointer none] w fun e w' => e = .returned (.bool true) ∧ w' = w := by
  go_enter Tryz.func77, Tryz.ntmps77
  go_wp2
  go_ret
  exact ⟨rfl, rfl⟩
theorem DvAt.is (h : DvAt w b d s) : Calls Tryz.prog 77 #[.pointer (some ⟨b, 0, none⟩)] w fun e w' => e = .returned (.bool false) ∧ w' = w := dnone_at b true w h.c1
set_option maxHeartbeats 400000 in
theorem isUp_any (h : DvAt w b d s) : Calls Tryz.prog 134 #[.pointer (some ⟨b, 0, none⟩)] w fun e w' => e = .returned (.int .i64 s.upc) ∧ w' = w := by
  have H := hide h.is
  have c2 := h.c2
  clear h
  unfold Dv.upc
  generalize s.off = x at *
  cases x
  all_goals
    go_enter Tryz.func134, Tryz.ntmps134
    go_wp2_with fail
    refine H.out.mono ?_
    rintro e w' ⟨rfl, rfl⟩
    go_wp2
    go_ret
    exact ⟨rfl, rfl⟩
set_option maxRecDepth 20000 in
set_option maxHeartbeats 1000000 in
theorem begin_any (h : DvAt w b d s) (hc : s.cnt < 100000) : Calls Tryz.prog 121 #[.pointer (some ⟨b, 0, none⟩)] w fun e w' => e = .returned (.int .i64 (s.code 0)) ∧ DvAt w' b d s.next ∧ w.grownBy w' (some b) := by
  have H := hide (isUp_any h)
  have c2 := h.c2
  have c3 := h.c3
  have c4 := h.c4
  have f2 := h.free 2
  have f3 := h.free 3
  have f4 := h.free 4
  have hlo := h.ok.lo
  have hhi := h.ok.hi
  have HH := hide h
  obtain ⟨x, a, c⟩ := s
  simp only at c2 c3 c4 hc hlo hhi
  cases x with
  | true =>
    clear h
    go_enter Tryz.func121, Tryz.ntmps121
    go_wp2_with fail
    refine H.out.mono ?_
    rintro e w' ⟨rfl, rfl⟩
    go_wp2
    go_ret
    exact ⟨rfl, HH.out, grown_refl _ _⟩
  | false =>
    by_cases h0 : a = 0
    · subst h0
      clear h
      go_enter Tryz.func121, Tryz.ntmps121
      go_wp2_with fail
      refine H.out.mono ?_
      rintro e w' ⟨rfl, rfl⟩
      go_wp2
      go_ret
      refine ⟨rfl, ⟨?_, HH.out.ok.next hc⟩, grown_then (grown_setCell _ b 2 _) (grown_setCell _ b 3 _) (fun j e => Or.inr e)⟩
      have h1 := row_setCell HH.out.head 2 (.bool true)
      exact row_setCell h1 3 (.int .i64 (-1))
    · by_cases h1 : 0 < a
      · have e1 : Dv.next ⟨false, a, c⟩ = ⟨false, a - 1, c + 1⟩ := by simp [Dv.next, h0, h1]
        have e2 : Dv.goes ⟨false, a, c⟩ = true := by simp [Dv.goes, h0]
        rw [e1, Dv.code, e2]
        clear h e1 e2
        go_enter Tryz.func121, Tryz.ntmps121
        go_wp2_with fail
        refine H.out.mono ?_
        rintro e w' ⟨rfl, rfl⟩
        go_wp2
        go_ret
        refine ⟨rfl, ⟨?_, ⟨by show -1 ≤ a - 1; omega, by show a - 1 ≤ _; omega, by show c + 1 ≤ _; omega⟩⟩, grown_then (grown_setCell _ b 3 _) (grown_setCell _ b 4 _) (fun j e => Or.inr e)⟩
        have h1 := row_setCell HH.out.head 3 (.int .i64 (a - 1))
        exact row_setCell h1 4 (.int .i64 ((c + 1 : Nat) : Int))
      · have e1 : Dv.next ⟨false, a, c⟩ = ⟨false, a, c + 1⟩ := by simp [Dv.next, h0, h1]
        have e2 : Dv.goes ⟨false, a, c⟩ = true := by simp [Dv.goes, h0]
        rw [e1, Dv.code, e2]
        clear h e1 e2
        go_enter Tryz.func121, Tryz.ntmps121
        go_wp2_with fail
        refine H.out.mono ?_
        rintro e w' ⟨rfl, rfl⟩
        go_wp2
        go_ret
        refine ⟨rfl, ⟨?_, ⟨hlo, hhi, by show c + 1 ≤ _; omega⟩⟩, grown_setCell _ b 4 _⟩
        exact row_setCell HH.out.head 4 (.int .i64 ((c + 1 : Nat) : Int))
/-- Armed anew. -/
def Dv.armed (s : Dv) (n : Int) : Dv := if s.off then s else ⟨false, max n (-1), s.cnt⟩
end
end Go.Proofs.YtonokaelbpfjnabGreatDoor
/- A device over a disk: its calls. -/
namespace Go.Proofs.YtonokaelbpfjnabGreatDoor
open Go.RowKit Ap
attribute [local go_sem ↓] Go.wp_at_zero Go.wp_at_succ

/-- A device lies at b, over the disk k. -/
structure Dev (w0 w : World) (n size b : Nat) (s : Dv) (k : Dk) (D : List Nat) (W : List Wt) : Prop where
  disk : DkS w0 w k n size D W
  dev : DvAt w b k.d s
  low : w0.heap.size ≤ b
/-- One device, before and after. -/
structure DvM (w w' : World) (b : Nat) (k k' : Dk) (W W' : List Wt) : Prop where
  d : k'.d = k.d
  own : ∀ i, k'.own i → k.own i ∨ w.heap.size ≤ i
  blk : ∀ x ∈ W', (∃ y ∈ W, y.blk = x.blk) ∨ w.heap.size ≤ x.blk
  kept : Kept w w' (fun i => k.own i ∨ i = b)
section
variable {w0 w w' w'' : World} {n size b : Nat} {s : Dv} {k k' k'' : Dk} {D D' : List Nat} {W W' W'' : List Wt}
theorem Dev.off (h : Dev w0 w n size b s k D W) : ¬ foot k W b := by
  rintro (e | ⟨x, hx, rfl⟩)
  · exact h.disk.disk.other_off h.dev.head (by decide) (by decide) (by decide) e
  · have := (h.disk.disk.waits x hx).2.2.2
    have h2 := h.dev.head
    rw [this] at h2
    simp at h2
theorem Dev.then (h : Dev w0 w n size b s k D W) (hg : w.grownBy w' none) : Dev w0 w' n size b s k D W := ⟨h.disk.then hg, h.dev.grown hg, h.low⟩
theorem DvM.refl (w : World) (b : Nat) (k : Dk) (W : List Wt) : DvM w w b k k W W := ⟨rfl, fun _ h => Or.inl h, fun x hx => Or.inl ⟨x, hx, rfl⟩, Kept.refl _ _⟩
theorem DvM.trans (h : DvM w w' b k k' W W') (g : DvM w' w'' b k' k'' W' W'') (_hb : b < w.heap.size) : DvM w w'' b k k'' W W'' := by
  refine ⟨g.d.trans h.d, ?_, ?_, h.kept.trans g.kept ?_⟩
  · intro i hi
    rcases g.own i hi with h1 | h1
    · exact h.own i h1
    · exact Or.inr (Nat.le_trans h.kept.size h1)
  · intro x hx
    rcases g.blk x hx with ⟨y, hy, e⟩ | h1
    · rw [← e]
      exact h.blk y hy
    · exact Or.inr (Nat.le_trans h.kept.size h1)
  · rintro i hi (h1 | h1)
    · rcases h.own i h1 with h2 | h2
      · exact Or.inl h2
      · omega
    · exact Or.inr h1
theorem DvM.new (h : DvM w w' b k k' W W') (g : w'.grownBy w'' none) : DvM w w'' b k k' W W' := ⟨h.d, h.own, h.blk, h.kept.trans (Kept.new g _) (fun _ _ e => e)⟩
theorem DvM.pre (g : w.grownBy w' none) (h : DvM w' w'' b k k' W W') : DvM w w'' b k k' W W' :=
  ⟨h.d, fun i hi => (h.own i hi).imp id (fun e => Nat.le_trans g.size e), fun x hx => (h.blk x hx).imp id (fun e => Nat.le_trans g.size e), (Kept.new g _).trans h.kept (fun _ _ e => e)⟩
theorem Moved.dev (h : Moved w w' k k' W W') : DvM w w' b k k' W W' := ⟨h.d, h.own, h.blk, h.kept.mono (fun _ _ e => Or.inl e)⟩
theorem DvM.row (hg : w.grownBy w' (some b)) : DvM w w' b k k W W := ⟨rfl, fun _ h => Or.inl h, fun x hx => Or.inl ⟨x, hx, rfl⟩, Kept.of hg (fun _ e _ => Or.inr (Option.some.inj e).symm)⟩
/-- The device's own block is written. -/
theorem Dev.dset {s' : Dv} (h : Dev w0 w n size b s k D W) (hg : w.grownBy w' (some b)) (hd : DvAt w' b k.d s') : Dev w0 w' n size b s' k D W :=
  ⟨h.disk.row hg (fun _ hi e => h.off (e ▸ hi)) h.low, hd, h.low⟩
/-- The disk goes on. -/
theorem Dev.dsk (h : Dev w0 w n size b s k D W) (hd : DkS w0 w' k' n size D' W') (hm : Moved w w' k k' W W') : Dev w0 w' n size b s k' D' W' :=
  ⟨hd, by have := h.dev.kept hm.kept (fun e => h.off (.inl e)); rw [← hm.d] at this; exact this, h.low⟩

set_option maxHeartbeats 1000000 in
theorem dwrite_any (h : Dev w0 w n size b s k D W) (hW : W.length ≤ 900000) (hc : s.cnt < 100000) (a : Int) (ao : Option Addr) (L cap : Nat) (xs : List Nat) (hat : At w ao xs) (hx : xs.length = L) :
    Calls Tryz.prog 117 #[.pointer (some ⟨b, 0, none⟩), .int .i64 a, .slice ao L cap] w fun e w' => e = .returned (.int .i64 (s.code (wcode n size a L))) ∧ ∃ k' W', Dev w0 w' n size b s.next k' D W' ∧ DvM w w' b k k' W W' ∧ abs W' = (if s.goes then wabs n size a xs (abs W) else abs W) ∧ W'.length ≤ W.length + 1 := by
  have H := hide (begin_any h.dev hc)
  have HH := hide (And.intro h (And.intro hW (And.intro hat hx)))
  have hb := h.dev.lt
  unfold Dv.code at H ⊢
  clear h hW hat hx hc
  obtain ⟨g, hgo⟩ : ∃ g, g = s.goes := ⟨_, rfl⟩
  rw [← hgo] at H ⊢
  clear hgo
  generalize s.next = t at *
  cases g with
  | false =>
    go_enter Tryz.func117, Tryz.ntmps117
    go_wp2_with fail
    refine H.out.mono ?_
    rintro e w' ⟨rfl, h1, h2⟩
    have H2 := hide (And.intro h1 h2)
    clear h1 h2
    go_wp2
    go_ret
    exact ⟨rfl, k, W, HH.out.1.dset H2.out.2 H2.out.1, DvM.row H2.out.2, by first | rfl | exact ⟨rfl, rfl⟩, by omega⟩
  | true =>
    simp only [if_true] at H ⊢
    go_enter Tryz.func117, Tryz.ntmps117
    go_wp2_with fail
    refine H.out.mono ?_
    rintro e w' ⟨rfl, h1, h2⟩
    have H2 := hide (And.intro h1 h2)
    have c0 := h1.c0
    clear h1 h2
    go_wp2_with fail
    have hd2 := HH.out.1.dset H2.out.2 H2.out.1
    refine (wr_disk rfl hd2.disk HH.out.2.1 a ao L cap xs (at_dev HH.out.2.2.1 HH.out.1.dev H2.out.2) HH.out.2.2.2).mono ?_
    rintro e w2 ⟨k2, W2, rfl, g1, g2, g3, g4⟩
    have H3 := hide (And.intro (hd2.dsk g1 g2) (And.intro ((DvM.row H2.out.2).trans (k := k) (W := W) (Moved.dev g2) hb) (And.intro g3 g4)))
    clear g1 g2 g3 g4 hd2
    go_wp2
    go_ret
    exact ⟨rfl, k2, W2, H3.out.1, H3.out.2.1, H3.out.2.2.1, H3.out.2.2.2⟩
/-- What a sync leaves. -/
def syncA (size : Nat) (st : List Nat × List Pr) : List Nat × List Pr := (stlP size (fun _ => size) st.1 st.2 st.2.length, [])
def crashA (size : Nat) (F : List (Int × Int)) (st : List Nat × List Pr) : List Nat × List Pr := (stlP size (fun i => lasts (fateK F i) (fateA F i) size) st.1 st.2 st.2.length, [])
set_option maxHeartbeats 1000000 in
theorem dsync_any (h : Dev w0 w n size b s k D W) (hc : s.cnt < 100000) :
    Calls Tryz.prog 119 #[.pointer (some ⟨b, 0, none⟩)] w fun e w' => e = .returned (.int .i64 (s.code 0)) ∧ ∃ k' D' W', Dev w0 w' n size b s.next k' D' W' ∧ DvM w w' b k k' W W' ∧ (D', abs W') = (if s.goes then syncA size (D, abs W) else (D, abs W)) ∧ W'.length ≤ W.length := by
  have H := hide (begin_any h.dev hc)
  have HH := hide h
  have hb := h.dev.lt
  unfold Dv.code at H ⊢
  clear h hc
  obtain ⟨g, hgo⟩ : ∃ g, g = s.goes := ⟨_, rfl⟩
  rw [← hgo] at H ⊢
  clear hgo
  generalize s.next = t at *
  cases g with
  | false =>
    go_enter Tryz.func119, Tryz.ntmps119
    go_wp2_with fail
    refine H.out.mono ?_
    rintro e w' ⟨rfl, h1, h2⟩
    have H2 := hide (And.intro h1 h2)
    clear h1 h2
    go_wp2
    go_ret
    exact ⟨rfl, k, D, W, HH.out.dset H2.out.2 H2.out.1, DvM.row H2.out.2, by first | rfl | exact ⟨rfl, rfl⟩, by omega⟩
  | true =>
    simp only [if_true] at H ⊢
    go_enter Tryz.func119, Tryz.ntmps119
    go_wp2_with fail
    refine H.out.mono ?_
    rintro e w' ⟨rfl, h1, h2⟩
    have H2 := hide (And.intro h1 h2)
    have c0 := h1.c0
    clear h1 h2
    go_wp2_with fail
    have hd2 := HH.out.dset H2.out.2 H2.out.1
    refine (syncS rfl hd2.disk).mono ?_
    rintro e w2 ⟨rfl, g1, g2⟩
    have H3 := hide (And.intro (hd2.dsk g1 (calm_moved g2)) ((DvM.row H2.out.2).trans (k := k) (W := W) (Moved.dev (calm_moved g2)) hb))
    clear g1 g2 hd2
    go_wp2
    go_ret
    exact ⟨rfl, k.calm, _, [], H3.out.1, H3.out.2, by rw [syncA, stl_abs, abs_length]; rfl, by simp⟩
/-- Bytes that a call has told. -/
def Gives (w w' : World) (size : Nat) (v : Value) (xs : List Nat) : Prop := (v = .slice none 0 0 ∧ xs = []) ∨ ∃ g, v = .slice (some ⟨g, 0, none⟩) size size ∧ w.heap.size ≤ g ∧ w'.heap[g]? = some (.cells (bv xs).toArray 5 (0, 0)) ∧ xs.length = size
def rcode (n : Nat) (a : Int) : Int := if 0 ≤ a ∧ a < (n : Int) then 0 else 50
def rbytes (n size : Nat) (D : List Nat) (W : List Wt) (a : Int) : List Nat := if 0 ≤ a ∧ a < (n : Int) then found size D W a.toNat else []
theorem rd_disk {d : Nat} (hd : k.d = d) (h : DkS w0 w k n size D W) (a : Int) : Calls Tryz.prog 122 #[.pointer (some ⟨d, 0, none⟩), .int .i64 a] w fun e w' =>
    ∃ v, e = .returned (.tuple #[v, .int .i64 (rcode n a)]) ∧ Gives w w' size v (rbytes n size D W a) ∧ w.grownBy w' none := by
  subst hd
  by_cases ha : 0 ≤ a ∧ a < (n : Int)
  · obtain ⟨i, rfl⟩ := Int.eq_ofNat_of_zero_le ha.1
    have hi : i < n := by omega
    refine (read_any h.disk i hi).mono ?_
    rintro e w' ⟨rfl, h1, h2⟩
    refine ⟨_, by rw [rcode, if_pos ha], ?_, h2⟩
    rw [rbytes, if_pos ha, Int.toNat_natCast]
    exact Or.inr ⟨w.heap.size, rfl, Nat.le_refl _, h1, found_length h.disk.len h.disk.fitsW i hi⟩
  · refine (read_far h.disk a ha).mono ?_
    rintro e w' ⟨rfl, h2⟩
    refine ⟨_, by rw [rcode, if_neg ha], ?_, h2⟩
    rw [rbytes, if_neg ha]
    exact Or.inl ⟨rfl, rfl⟩
theorem Gives.later {w1 w2 w3 : World} {v : Value} {xs : List Nat} (h : Gives w1 w2 size v xs) (hl : w.heap.size ≤ w1.heap.size) (hg : w2.grownBy w3 none) : Gives w w3 size v xs := by
  rcases h with h | ⟨g, h1, h2, h3, h4⟩
  · exact Or.inl h
  · exact Or.inr ⟨g, h1, by omega, (hg.block g (row_lt h3) (by simp)).trans h3, h4⟩
set_option maxHeartbeats 1000000 in
theorem dread_any (h : Dev w0 w n size b s k D W) (hc : s.cnt < 100000) (a : Int) :
    Calls Tryz.prog 88 #[.pointer (some ⟨b, 0, none⟩), .int .i64 a] w fun e w' => ∃ v, e = .returned (.tuple #[v, .int .i64 (s.code (rcode n a))]) ∧ Gives w w' size v (if s.goes then rbytes n size D W a else []) ∧ Dev w0 w' n size b s.next k D W ∧ DvM w w' b k k W W := by
  have H := hide (begin_any h.dev hc)
  have HH := hide h
  have hb := h.dev.lt
  unfold Dv.code at H ⊢
  clear h hc
  obtain ⟨g, hgo⟩ : ∃ g, g = s.goes := ⟨_, rfl⟩
  rw [← hgo] at H ⊢
  clear hgo
  generalize s.next = t at *
  cases g with
  | false =>
    go_enter Tryz.func88, Tryz.ntmps88
    go_wp2_with fail
    refine H.out.mono ?_
    rintro e w' ⟨rfl, h1, h2⟩
    have H2 := hide (And.intro h1 h2)
    clear h1 h2
    go_wp2
    go_ret2
    exact ⟨_, rfl, Or.inl ⟨rfl, rfl⟩, HH.out.dset H2.out.2 H2.out.1, DvM.row H2.out.2⟩
  | true =>
    simp only [if_true] at H ⊢
    go_enter Tryz.func88, Tryz.ntmps88
    go_wp2_with fail
    refine H.out.mono ?_
    rintro e w' ⟨rfl, h1, h2⟩
    have H2 := hide (And.intro h1 h2)
    have c0 := h1.c0
    clear h1 h2
    go_wp2_with fail
    have hd2 := HH.out.dset H2.out.2 H2.out.1
    refine (rd_disk rfl hd2.disk a).mono ?_
    rintro e w2 ⟨v, rfl, g1, g2⟩
    have H3 := hide (And.intro g1 (And.intro (hd2.then g2) ((DvM.row (k := k) (W := W) H2.out.2).new g2)))
    have hsz := H2.out.2.size
    clear g1 g2 hd2
    go_wp2
    go_ret2
    exact ⟨v, rfl, H3.out.1.later hsz (grown_refl _ _), H3.out.2.1, H3.out.2.2⟩
/-- Come again. -/
def Dv.anew : Dv := ⟨false, -1, 0⟩
theorem FatesAt.row {fo : Option Addr} {F : List (Int × Int)} {r : Nat} (h : FatesAt w fo F) (hg : w.grownBy w' (some r)) (hr : ∀ a, fo = some a → 0 < F.length → a.block ≠ r) : FatesAt w' fo F :=
  h.kept2 hg (fun a e hl e2 => hr a e hl (Option.some.inj e2))
end
end Go.Proofs.YtonokaelbpfjnabGreatDoor
/- A device made, asked, copied; no device. -/
namespace Go.Proofs.YtonokaelbpfjnabGreatDoor
open Go.RowKit Ap
attribute [local go_sem ↓] Go.wp_at_zero Go.wp_at_succ

section
variable {w0 w : World} {n size b : Nat} {s : Dv} {k : Dk} {D : List Nat} {W : List Wt}
set_option maxHeartbeats 1000000 in
theorem dnew_none (p : Option Addr) (w : World) (h : NoDisk w p) : Calls Tryz.prog 19 #[.pointer p] w fun e w' => e = .returned (.tuple #[.pointer none, .int .i64 1]) ∧ w' = w := by
  have H := hide (sectors_none p w h)
  clear h
  go_enter Tryz.func19, Tryz.ntmps19
  go_wp2_with fail
  refine H.out.mono ?_
  rintro e w' ⟨rfl, rfl⟩
  go_wp2
  go_ret2
  exact ⟨rfl, rfl⟩
set_option maxHeartbeats 1000000 in
theorem dnew_any {d : Nat} (hd : k.d = d) (h : DkS w0 w k n size D W) : Calls Tryz.prog 19 #[.pointer (some ⟨d, 0, none⟩)] w fun e w' => ∃ b, e = .returned (.tuple #[.pointer (some ⟨b, 0, none⟩), .int .i64 0]) ∧ Dev w0 w' n size b Dv.anew k D W ∧ w.heap.size ≤ b ∧ w.grownBy w' none := by
  subst hd
  have H := hide (sectors_any h.disk)
  have n0 : (n : Int) ≠ 0 := by have := h.disk.shape.n0; omega
  have HH := hide h
  clear h
  go_enter Tryz.func19, Tryz.ntmps19
  go_wp2_with fail
  refine H.out.mono ?_
  rintro e w' ⟨rfl, q, rfl⟩
  have HQ := hide (HH.out.then (grown_drewN w q none))
  have gq := hide (grown_drewN w q none)
  generalize w.drewN q = w1 at *
  go_wp2
  go_ret2
  have g1 := World.grownBy_alloc w1 (.cells (dcells k.d Dv.anew).toArray 131) none
  refine ⟨w1.heap.size, rfl, ⟨HQ.out.then g1, ⟨heap_alloc_new w1 _, ⟨by show (-1 : Int) ≤ -1; omega, by show (-1 : Int) ≤ _; omega, by show 0 ≤ _; omega⟩⟩, ?_⟩, gq.out.size, grown_trans gq.out g1⟩
  exact HQ.out.grown.size
set_option maxHeartbeats 400000 in
theorem dsectors_any (h : Dev w0 w n size b s k D W) : Calls Tryz.prog 42 #[.pointer (some ⟨b, 0, none⟩)] w fun e w' => e = .returned (.int .i64 (n : Int)) ∧ ∃ q, w' = w.drewN q := by
  have H := hide h.dev.is
  have c0 := h.dev.c0
  have HH := hide h.disk.disk
  clear h
  go_enter Tryz.func42, Tryz.ntmps42
  go_wp2_with fail
  refine H.out.mono ?_
  rintro e w' ⟨rfl, rfl⟩
  go_wp2_with fail
  refine (sectors_any HH.out).mono ?_
  rintro e w' ⟨rfl, q, rfl⟩
  go_wp2
  go_ret
  exact ⟨rfl, q, rfl⟩
set_option maxHeartbeats 400000 in
theorem dsize_any (h : Dev w0 w n size b s k D W) : Calls Tryz.prog 81 #[.pointer (some ⟨b, 0, none⟩)] w fun e w' => e = .returned (.int .i64 (size : Int)) ∧ w' = w := by
  have H := hide h.dev.is
  have c0 := h.dev.c0
  have HH := hide h.disk.disk
  clear h
  go_enter Tryz.func81, Tryz.ntmps81
  go_wp2_with fail
  refine H.out.mono ?_
  rintro e w' ⟨rfl, rfl⟩
  go_wp2_with fail
  refine (size_any HH.out).mono ?_
  rintro e w' ⟨rfl, rfl⟩
  go_wp2
  go_ret
  exact ⟨rfl, rfl⟩
end
end Go.Proofs.YtonokaelbpfjnabGreatDoor
/- What a device shows, as one row of bytes; the pieces of a region's bytes: plain lemmas. -/
namespace Go.Proofs.YtonokaelbpfjnabGreatDoor
open Go.RowKit Ap

/-- All bytes, as reads show them. -/
def now (size : Nat) (D : List Nat) (P : List Pr) : List Nat := stlP size (fun _ => size) D P P.length
theorem now_abs (size : Nat) (D : List Nat) (W : List Wt) : now size D (abs W) = stl size (fun _ => size) D W W.length := by
  rw [now, stl_abs, abs_length]
theorem now_len {n size : Nat} {D : List Nat} {W : List Wt} (hD : D.length = n * size) (hW : Fits n size W) : (now size D (abs W)).length = n * size := by
  rw [now_abs]; exact stl_length hD hW _
theorem now_found {n size : Nat} {D : List Nat} {W : List Wt} (hD : D.length = n * size) (hW : Fits n size W) (s : Nat) (hs : s < n) : secOf size (now size D (abs W)) s = found size D W s := by
  rw [now_abs]; exact found_kept hD hW _ (fun _ _ => rfl) s hs
theorem stlP_pre (size : Nat) (L : Nat → Nat) (D : List Nat) (P Q : List Pr) (j : Nat) (h : j ≤ P.length) : stlP size L D (P ++ Q) j = stlP size L D P j := by
  induction j with
  | zero => rfl
  | succ j ih =>
    rw [stlP, stlP, ih (by omega), List.getElem?_append_left (by omega)]
theorem now_snoc (size : Nat) (D : List Nat) (P : List Pr) (s : Nat) (xs : List Nat) (hx : xs.length ≤ size) : now size D (P ++ [(s, xs)]) = splice (now size D P) (s * size) xs := by
  rw [now, List.length_append, List.length_singleton, stlP, List.getElem?_append_right (Nat.le_refl _), Nat.sub_self]
  show splice (stlP size (fun _ => size) D (P ++ [(s, xs)]) P.length) (s * size) (xs.take size) = _
  rw [stlP_pre _ _ _ _ _ _ (Nat.le_refl _), List.take_of_length_le hx]
  rfl
theorem now_nil (size : Nat) (D : List Nat) : now size D [] = D := rfl
/-- With all fates kept. -/
theorem stlP_full (size : Nat) (L : Nat → Nat) (D : List Nat) (P : List Pr) (_hP : ∀ x ∈ P, x.2.length = size) (hL : ∀ i, i < P.length → L i = size) (j : Nat) (hj : j ≤ P.length) : stlP size L D P j = stlP size (fun _ => size) D P j := by
  induction j with
  | zero => rfl
  | succ j ih =>
    rw [stlP, stlP, ih (by omega), List.getElem?_eq_getElem (by omega)]
    simp only
    rw [hL j (by omega)]

/-- How many sectors hold n bytes from at on. -/
def pcn (size at_ n : Nat) : Nat := if n = 0 then 0 else (at_ + n - 1) / size + 1 - at_ / size
theorem pcn_iff {size at_ n : Nat} (hs : 0 < size) (j : Nat) : j < pcn size at_ n ↔ (at_ / size + j) * size - at_ < n := by
  unfold pcn
  by_cases h0 : n = 0
  · subst h0; simp
  · rw [if_neg h0]
    have h1 : at_ / size + j ≤ (at_ + n - 1) / size ↔ (at_ / size + j) * size ≤ at_ + n - 1 := Nat.le_div_iff_mul_le hs
    omega
/-- What of a sector is meant. -/
structure Pc (size at_ n j : Nat) where
theorem pc_facts {size at_ n j : Nat} (hs : 0 < size) (h : j < pcn size at_ n) :
    (at_ + ((at_ / size + j) * size - at_)) % size = at_ - (at_ / size + j) * size ∧ (at_ + ((at_ / size + j) * size - at_)) / size = at_ / size + j ∧
    at_ - (at_ / size + j) * size < size ∧ (at_ / size + j) * size < at_ + n := by
  have h2 := (pcn_iff hs j).1 h
  have hd := Nat.div_add_mod at_ size
  have hm := Nat.mod_lt at_ hs
  rw [Nat.mul_comm] at hd
  cases j with
  | zero =>
    rw [Nat.add_zero]
    have e : at_ / size * size - at_ = 0 := by omega
    rw [e, Nat.add_zero]
    refine ⟨by omega, rfl, by omega, ?_⟩
    rw [Nat.add_zero, e] at h2
    omega
  | succ j =>
    have e : at_ < (at_ / size + (j + 1)) * size := by
      have : (at_ / size + (j + 1)) * size = at_ / size * size + size + j * size := by rw [Nat.add_mul, Nat.add_mul]; omega
      omega
    generalize at_ / size + (j + 1) = q at *
    rw [show at_ + (q * size - at_) = q * size by omega, Nat.mul_mod_left, Nat.mul_div_cancel _ hs]
    exact ⟨by omega, rfl, by omega, by omega⟩
/-- The place behind piece j. -/
theorem pc_next {size at_ n j : Nat} (hs : 0 < size) (h : j < pcn size at_ n) :
    (at_ / size + j) * size - at_ + (min (at_ + n - (at_ / size + j) * size) size - (at_ - (at_ / size + j) * size)) = min n ((at_ / size + (j + 1)) * size - at_) := by
  obtain ⟨h1, h2, h3, h4⟩ := pc_facts hs h
  have e : (at_ / size + (j + 1)) * size = (at_ / size + j) * size + size := by rw [← Nat.add_assoc, Nat.add_mul (at_ / size + j), Nat.one_mul]
  rw [e]
  generalize (at_ / size + j) * size = q at *
  omega
theorem pc_last {size at_ n : Nat} (hs : 0 < size) : n ≤ (at_ / size + pcn size at_ n) * size - at_ := by
  have := (pcn_iff (n := n) (at_ := at_) hs (pcn size at_ n)).2
  omega
/-- Is a sector told as a whole? -/
def full (size at_ n j : Nat) : Bool := decide (min (at_ + n - (at_ / size + j) * size) size - (at_ - (at_ / size + j) * size) = size)
/-- A sector, behind its piece. -/
theorem pc_sec {n size F at_ j : Nat} {A b : List Nat} (hs : 0 < size) (hA : A.length = n * size) (hj : j < pcn size at_ b.length) (hfit : F * size + at_ + b.length ≤ n * size) :
    splice (secOf size A (F + (at_ / size + j))) (at_ - (at_ / size + j) * size) ((b.drop ((at_ / size + j) * size - at_)).take (min (at_ + b.length - (at_ / size + j) * size) size - (at_ - (at_ / size + j) * size)))
      = secOf size (splice A (F * size + at_) b) (F + (at_ / size + j)) := by
  obtain ⟨h1, h2, h3, h4⟩ := pc_facts hs hj
  have e : (F + (at_ / size + j)) * size = F * size + (at_ / size + j) * size := Nat.add_mul _ _ _
  have hlt : F + (at_ / size + j) < n := by
    apply Nat.lt_of_mul_lt_mul_right (a := size)
    omega
  have hsl := secOf_length hA hlt
  have hle : (F + (at_ / size + j) + 1) * size ≤ n * size := Nat.mul_le_mul_right _ hlt
  rw [Nat.succ_mul, e] at hle
  have hlen : ((b.drop ((at_ / size + j) * size - at_)).take (min (at_ + b.length - (at_ / size + j) * size) size - (at_ - (at_ / size + j) * size))).length = min (at_ + b.length - (at_ / size + j) * size) size - (at_ - (at_ / size + j) * size) := by
    simp only [List.length_take, List.length_drop]
    omega
  apply List.ext_getElem?
  intro i
  rw [splice_get _ _ _ _ (by rw [hlen, hsl]; omega), hlen, secOf_get, secOf_get, splice_get _ _ _ _ (by omega), e, List.getElem?_take, List.getElem?_drop]
  generalize (at_ / size + j) * size = q at *
  by_cases hi : i < size
  · rw [if_pos hi, if_pos hi]
    by_cases hx : at_ - q ≤ i ∧ i < at_ - q + (min (at_ + b.length - q) size - (at_ - q))
    · rw [if_pos hx, if_pos (by omega), if_pos (by omega)]
      congr 1; omega
    · rw [if_neg hx, if_neg (by omega)]
  · rw [if_neg hi, if_neg hi, if_neg (by omega)]
theorem splice_full (xs ys : List Nat) (h : ys.length = xs.length) : splice xs 0 ys = ys := by
  simp [splice, h]
/-- The first j pieces, as writes. -/
def pcs (size F at_ : Nat) (B : List Nat) (j : Nat) : List Pr := (List.range j).map fun i => (F + (at_ / size + i), secOf size B (F + (at_ / size + i)))
theorem pcs_succ (size F at_ : Nat) (B : List Nat) (j : Nat) : pcs size F at_ B (j + 1) = pcs size F at_ B j ++ [(F + (at_ / size + j), secOf size B (F + (at_ / size + j)))] := by
  simp [pcs, List.range_succ]
theorem pcs_length (size F at_ : Nat) (B : List Nat) (j : Nat) : (pcs size F at_ B j).length = j := by simp [pcs]
/-- What is shown behind the first j pieces. -/
theorem now_pcs {n size F at_ : Nat} {D : List Nat} {P : List Pr} {b : List Nat} (hs : 0 < size) (hA : (now size D P).length = n * size) (hfit : F * size + at_ + b.length ≤ n * size) (j : Nat) (hj : j ≤ pcn size at_ b.length) :
    now size D (P ++ pcs size F at_ (splice (now size D P) (F * size + at_) b) j) = splice (now size D P) (F * size + at_) (b.take ((at_ / size + j) * size - at_)) := by
  induction j with
  | zero =>
    have hd := Nat.div_mul_le_self at_ size
    have e : (at_ / size + 0) * size - at_ = 0 := by rw [Nat.add_zero]; omega
    rw [e, List.take_zero, splice_nil]
    simp [pcs]
  | succ j ih =>
    have hj' : j < pcn size at_ b.length := by omega
    obtain ⟨h1, h2, h3, h4⟩ := pc_facts hs hj'
    have e : (F + (at_ / size + j)) * size = F * size + (at_ / size + j) * size := Nat.add_mul _ _ _
    have e2 : (at_ / size + (j + 1)) * size = (at_ / size + j) * size + size := by rw [← Nat.add_assoc, Nat.add_mul (at_ / size + j), Nat.one_mul]
    have hlt : F + (at_ / size + j) < n := by
      apply Nat.lt_of_mul_lt_mul_right (a := size)
      omega
    have hle : (F + (at_ / size + j) + 1) * size ≤ n * size := Nat.mul_le_mul_right _ hlt
    rw [Nat.succ_mul, e] at hle
    have hB : (splice (now size D P) (F * size + at_) b).length = n * size := by rw [length_splice _ _ _ (by omega), hA]
    have hsl := secOf_length hB hlt
    rw [pcs_succ, ← List.append_assoc, now_snoc _ _ _ _ _ (by omega), ih (by omega)]
    have hl1 : (b.take ((at_ / size + j) * size - at_)).length = min ((at_ / size + j) * size - at_) b.length := by simp
    have hl2 : (b.take ((at_ / size + (j + 1)) * size - at_)).length = min ((at_ / size + (j + 1)) * size - at_) b.length := by simp
    have hl3 : (splice (now size D P) (F * size + at_) (b.take ((at_ / size + j) * size - at_))).length = n * size := by rw [length_splice _ _ _ (by omega), hA]
    apply List.ext_getElem?
    intro i
    rw [splice_get _ _ _ _ (by omega), splice_get _ _ _ _ (by omega), splice_get _ _ _ _ (by omega), hsl, hl1, hl2, secOf_get, splice_get _ _ _ _ (by omega), List.getElem?_take, List.getElem?_take, e, e2]
    generalize (at_ / size + j) * size = q at *
    by_cases hx : F * size + q ≤ i ∧ i < F * size + q + size
    · rw [if_pos hx, if_pos (by omega), show F * size + q + (i - (F * size + q)) = i by omega]
      by_cases hy : F * size + at_ ≤ i ∧ i < F * size + at_ + b.length
      · rw [if_pos hy, if_pos (by omega), if_pos (by omega)]
      · rw [if_neg hy, if_neg (by omega)]
    · rw [if_neg hx]
      by_cases hy : F * size + at_ ≤ i ∧ i < F * size + at_ + min (q - at_) b.length
      · rw [if_pos hy, if_pos (by omega), if_pos (by omega), if_pos (by omega)]
      · rw [if_neg hy, if_neg (by omega)]
theorem now_all {n size F at_ : Nat} {D : List Nat} {P : List Pr} {b : List Nat} (hs : 0 < size) (hA : (now size D P).length = n * size) (hfit : F * size + at_ + b.length ≤ n * size) :
    now size D (P ++ pcs size F at_ (splice (now size D P) (F * size + at_) b) (pcn size at_ b.length)) = splice (now size D P) (F * size + at_) b := by
  rw [now_pcs hs hA hfit _ (Nat.le_refl _), List.take_of_length_le (pc_last hs)]

/-- Reads, one behind the other. -/
def rgo : Nat → Dv → Int × Dv
  | 0, s => (0, s)
  | m + 1, s => if s.goes then rgo m s.next else (60, s.next)
/-- Pieces, one behind the other, of which some are read first: how many are written, the code, the device. -/
def wgo (f : Nat → Bool) : Nat → Nat → Dv → Nat × Int × Dv
  | 0, _, s => (0, 0, s)
  | m + 1, k, s => if s.goes then (if f k then ((wgo f m (k + 1) s.next).1 + 1, (wgo f m (k + 1) s.next).2) else if s.next.goes then ((wgo f m (k + 1) s.next.next).1 + 1, (wgo f m (k + 1) s.next.next).2) else (0, 60, s.next.next)) else (0, 60, s.next)
end Go.Proofs.YtonokaelbpfjnabGreatDoor
/- A region of package region in memory; its small calls. -/
namespace Go.Proofs.YtonokaelbpfjnabGreatDoor
open Go.RowKit Ap
attribute [local go_sem ↓] Go.wp_at_zero Go.wp_at_succ

def rgcells (b : Nat) (F C : Int) : List Value := [.pointer (some ⟨b, 0, none⟩), .int .i64 F, .int .i64 C]
/-- A region lies at r: sectors of the device b. -/
structure RgAt (w : World) (r b F C : Nat) : Prop where
  head : w.heap[r]? = some (.cells (rgcells b F C).toArray 135 (0, 0))
section
variable {w w' : World} {r b F C : Nat}
theorem RgAt.lt (h : RgAt w r b F C) : r < w.heap.size := row_lt h.head
theorem RgAt.same (h : RgAt w r b F C) (hb : w'.heap[r]? = w.heap[r]?) : RgAt w' r b F C := ⟨hb.trans h.head⟩
theorem RgAt.grown (h : RgAt w r b F C) (hg : w.grownBy w' none) : RgAt w' r b F C := h.same (hg.block r h.lt (by simp))
theorem RgAt.kept {S : Nat → Prop} (h : RgAt w r b F C) (hk : Kept w w' S) (hS : ¬ S r) : RgAt w' r b F C := h.same (hk.block r h.lt hS)
theorem RgAt.c0 (h : RgAt w r b F C) : w.cell? ⟨r, 0, none⟩ = some (.pointer (some ⟨b, 0, none⟩)) := cell_row h.head 0
theorem RgAt.c1 (h : RgAt w r b F C) : w.cell? ⟨r, 1, none⟩ = some (.int .i64 (F : Int)) := cell_row h.head 1
theorem RgAt.c2 (h : RgAt w r b F C) : w.cell? ⟨r, 2, none⟩ = some (.int .i64 (C : Int)) := cell_row h.head 2
set_option maxHeartbeats 400000 in
theorem gnone_at (h : RgAt w r b F C) : Calls Tryz.prog 79 #[.pointer (some ⟨r, 0, none⟩)] w fun e w' => e = .returned (.bool false) ∧ w' = w := by
  have c0 := h.c0
  clear h
  go_enter Tryz.func79, Tryz.ntmps79
  go_wp2
  go_ret
  exact ⟨rfl, rfl⟩
/-- No region: nil, or one of no device. -/
def NoRegion (w : World) (p : Option Addr) : Prop := p = none ∨ ∃ a, p = some a ∧ w.cell? a = some (.pointer none)
set_option maxHeartbeats 400000 in
theorem gnone_no (p : Option Addr) (w : World) (h : NoRegion w p) : Calls Tryz.prog 79 #[.pointer p] w fun e w' => e = .returned (.bool true) ∧ w' = w := by
  rcases h with rfl | ⟨⟨r, o, q⟩, rfl, c0⟩
  · go_enter Tryz.func79, Tryz.ntmps79
    go_wp2
    go_ret
    exact ⟨rfl, rfl⟩
  · go_enter Tryz.func79, Tryz.ntmps79
    go_wp2
    go_ret
    exact ⟨rfl, rfl⟩
end
/-- What is wrong with n bytes from at on. -/
def mcode (B : Nat) (at_ m : Int) : Int := if 0 ≤ at_ ∧ 0 ≤ m ∧ m ≤ (B : Int) - at_ then 0 else 2
section
variable {w0 w : World} {n size b r F C : Nat} {s : Dv} {k : Dk} {D : List Nat} {W : List Wt}
/-- A device lies behind draws. -/
theorem Dev.drew (h : Dev w0 w n size b s k D W) (q : Nat) : Dev w0 (w.drewN q) n size b s k D W := h.then (grown_drewN w q none)
theorem RgAt.drew (h : RgAt w r b F C) (q : Nat) : RgAt (w.drewN q) r b F C := h.grown (grown_drewN w q none)
set_option maxRecDepth 20000 in
set_option maxHeartbeats 1000000 in
theorem gbytes_at (h : Dev w0 w n size b s k D W) (hr : RgAt w r b F C) (hC : C ≤ 65536) : Calls Tryz.prog 80 #[.pointer (some ⟨r, 0, none⟩)] w fun e w' => e = .returned (.int .i64 ((C * size : Nat) : Int)) ∧ ∃ q, w' = w.drewN q := by
  have c0 := hr.c0
  have c2 := hr.c2
  have s1 := h.disk.disk.shape.s1
  have hm : C * size ≤ 65536 * 4096 := Nat.mul_le_mul hC s1
  have hm2 : (C : Int) * (size : Int) = ((C * size : Nat) : Int) := by simp
  have hm3 : (0 : Int) ≤ (C : Int) * (size : Int) ∧ (C : Int) * (size : Int) ≤ 268435456 := by rw [hm2]; omega
  have hm4 := hm3.1
  have hm5 := hm3.2
  have H := hide (fun q => dsize_any (h.drew q))
  clear h hr hm2 hm hm3
  go_enter Tryz.func80, Tryz.ntmps80
  go_wp2_with fail
  go_quiet ((go_at_call 81; exact Calls.quiet_of_same (H.out _)))
  go_wp2
  go_ret
  exact ⟨rfl, _, rfl⟩
set_option maxRecDepth 20000 in
set_option maxHeartbeats 1000000 in
theorem ghas_at (h : Dev w0 w n size b s k D W) (hr : RgAt w r b F C) (hC : C ≤ 65536) (at_ m : Int) (hat : at_ ≤ 9223372036854775807) : Calls Tryz.prog 120 #[.pointer (some ⟨r, 0, none⟩), .int .i64 at_, .int .i64 m] w fun e w' => e = .returned (.bool (decide (mcode (C * size) at_ m = 0))) ∧ ∃ q, w' = w.drewN q := by
  have hm : C * size ≤ 65536 * 4096 := Nat.mul_le_mul hC h.disk.disk.shape.s1
  have H := hide (gbytes_at h hr hC)
  clear h hr
  unfold mcode
  generalize C * size = B at *
  by_cases h1 : 0 ≤ at_
  · by_cases h2 : 0 ≤ m
    · by_cases h3 : m ≤ (B : Int) - at_
      · rw [if_pos ⟨h1, h2, h3⟩]
        go_enter Tryz.func120, Tryz.ntmps120
        go_wp2_with fail
        refine H.out.mono ?_
        rintro e w' ⟨rfl, q, rfl⟩
        go_wp2
        go_ret
        exact ⟨rfl, q, rfl⟩
      · rw [if_neg (by omega)]
        go_enter Tryz.func120, Tryz.ntmps120
        go_wp2_with fail
        refine H.out.mono ?_
        rintro e w' ⟨rfl, q, rfl⟩
        go_wp2
        go_ret
        exact ⟨by show Ending.returned (.bool (decide (m ≤ (B : Int) - at_))) = _; rw [decide_eq_false (Int.not_le.2 h3)]; rfl, q, rfl⟩
    · rw [if_neg (by omega)]
      go_enter Tryz.func120, Tryz.ntmps120
      go_wp2
      go_ret
      exact ⟨rfl, 0, rfl⟩
  · rw [if_neg (by omega)]
    go_enter Tryz.func120, Tryz.ntmps120
    go_wp2
    go_ret
    exact ⟨rfl, 0, rfl⟩
set_option maxRecDepth 20000 in
set_option maxHeartbeats 1000000 in
theorem gmay_at (h : Dev w0 w n size b s k D W) (hr : RgAt w r b F C) (hC : C ≤ 65536) (at_ m : Int) (hat : at_ ≤ 9223372036854775807) : Calls Tryz.prog 85 #[.pointer (some ⟨r, 0, none⟩), .int .i64 at_, .int .i64 m] w fun e w' => e = .returned (.int .i64 (mcode (C * size) at_ m)) ∧ ∃ q, w' = w.drewN q := by
  have H := hide (gnone_at hr)
  have H2 := hide (ghas_at h hr hC at_ m hat)
  clear h hr
  have hv : mcode (C * size) at_ m = 0 ∨ mcode (C * size) at_ m = 2 := by unfold mcode; split <;> simp
  generalize mcode (C * size) at_ m = v at *
  rcases hv with rfl | rfl
  all_goals
    go_enter Tryz.func85, Tryz.ntmps85
    go_wp2_with fail
    refine H.out.mono ?_
    rintro e w' ⟨rfl, rfl⟩
    go_wp2_with fail
    refine H2.out.mono ?_
    rintro e w' ⟨rfl, q, rfl⟩
    go_wp2
    go_ret
    exact ⟨rfl, q, rfl⟩
set_option maxHeartbeats 400000 in
theorem gBytes_at (h : Dev w0 w n size b s k D W) (hr : RgAt w r b F C) (hC : C ≤ 65536) : Calls Tryz.prog 44 #[.pointer (some ⟨r, 0, none⟩)] w fun e w' => e = .returned (.int .i64 ((C * size : Nat) : Int)) ∧ ∃ q, w' = w.drewN q := by
  have H := hide (gnone_at hr)
  have H2 := hide (gbytes_at h hr hC)
  clear h hr
  go_enter Tryz.func44, Tryz.ntmps44
  go_wp2_with fail
  refine H.out.mono ?_
  rintro e w' ⟨rfl, rfl⟩
  go_wp2_with fail
  refine H2.out.mono ?_
  rintro e w' ⟨rfl, q, rfl⟩
  go_wp2
  go_ret
  exact ⟨rfl, q, rfl⟩
set_option maxHeartbeats 400000 in
theorem gSize_at (h : Dev w0 w n size b s k D W) (hr : RgAt w r b F C) : Calls Tryz.prog 45 #[.pointer (some ⟨r, 0, none⟩)] w fun e w' => e = .returned (.int .i64 (size : Int)) ∧ w' = w := by
  have H := hide (gnone_at hr)
  have H2 := hide (dsize_any h)
  have c0 := hr.c0
  clear h hr
  go_enter Tryz.func45, Tryz.ntmps45
  go_wp2_with fail
  refine H.out.mono ?_
  rintro e w' ⟨rfl, rfl⟩
  go_wp2_with fail
  refine H2.out.mono ?_
  rintro e w' ⟨rfl, rfl⟩
  go_wp2
  go_ret
  exact ⟨rfl, rfl⟩
def SyncPost (w0 w w' : World) (n size b : Nat) (s : Dv) (k : Dk) (D : List Nat) (W : List Wt) : Prop := ∃ k' D' W', Dev w0 w' n size b s.next k' D' W' ∧ DvM w w' b k k' W W' ∧ (D', abs W') = (if s.goes then syncA size (D, abs W) else (D, abs W)) ∧ W'.length ≤ W.length
set_option maxHeartbeats 400000 in
theorem gSync_at (h : Dev w0 w n size b s k D W) (hr : RgAt w r b F C) (hc : s.cnt < 100000) :
    Calls Tryz.prog 84 #[.pointer (some ⟨r, 0, none⟩)] w fun e w' => e = .returned (.int .i64 (s.code 0)) ∧ SyncPost w0 w w' n size b s k D W := by
  have H := hide (gnone_at hr)
  have H2 : Hid (Calls Tryz.prog 119 #[.pointer (some ⟨b, 0, none⟩)] w fun e w' => e = .returned (.int .i64 (s.code 0)) ∧ SyncPost w0 w w' n size b s k D W) := dsync_any h hc
  have c0 := hr.c0
  clear h hr
  generalize s.code 0 = x at *
  go_enter Tryz.func84, Tryz.ntmps84
  go_wp2_with fail
  refine H.out.mono ?_
  rintro e w' ⟨rfl, rfl⟩
  go_wp2_with fail
  refine H2.out.mono ?_
  rintro e w' ⟨rfl, h2⟩
  have H3 := hide h2
  clear h2
  go_wp2
  go_ret
  exact ⟨rfl, H3.out⟩
/-- May a region of these sectors be? -/
def spanOk (n : Nat) (F C : Int) : Prop := 0 ≤ F ∧ 1 ≤ C ∧ C ≤ (n : Int) - F
/-- The span's block. -/
theorem span_new (w : World) (F C : Int) : (w.alloc (.cells #[.int .i64 F, .int .i64 C] 53)).cell? ⟨w.heap.size, 0, none⟩ = some (.int .i64 F) ∧ (w.alloc (.cells #[.int .i64 F, .int .i64 C] 53)).cell? ⟨w.heap.size, 1, none⟩ = some (.int .i64 C) :=
  ⟨cell_row (l := [.int .i64 F, .int .i64 C]) (heap_alloc_new w (.cells #[.int .i64 F, .int .i64 C] 53)) 0, cell_row (l := [.int .i64 F, .int .i64 C]) (heap_alloc_new w (.cells #[.int .i64 F, .int .i64 C] 53)) 1⟩
set_option maxRecDepth 20000 in
set_option maxHeartbeats 1000000 in
theorem gnew_at (h : Dev w0 w n size b s k D W) (F C : Nat) (hok : spanOk n F C) : Calls Tryz.prog 20 #[.pointer (some ⟨b, 0, none⟩), .agg #[.int .i64 (F : Int), .int .i64 (C : Int)]] w fun e w' => ∃ r, e = .returned (.tuple #[.pointer (some ⟨r, 0, none⟩), .int .i64 0]) ∧ RgAt w' r b F C ∧ w.heap.size ≤ r ∧ w.grownBy w' none := by
  obtain ⟨h1, h2, h3⟩ := hok
  have n0 : (n : Int) ≠ 0 := by have := h.disk.disk.shape.n0; omega
  have n1 := h.disk.disk.shape.n1
  have H : Hid (∀ w1, w.grownBy w1 none → Calls Tryz.prog 42 #[.pointer (some ⟨b, 0, none⟩)] w1 fun e w' => e = .returned (.int .i64 (n : Int)) ∧ w1.grownBy w' none) := fun w1 g1 => (dsectors_any (h.then g1)).mono (by rintro e w' ⟨rfl, q, rfl⟩; exact ⟨rfl, grown_drewN _ _ _⟩)
  have G1 := hide (World.grownBy_alloc w (.cells #[.int .i64 (F : Int), .int .i64 (C : Int)] 53) none)
  have E := hide (span_new w F C)
  have hz := hide G1.out.size
  clear h
  go_enter Tryz.func20, Tryz.ntmps20
  go_wp2_with fail
  generalize w.alloc (.cells #[.int .i64 (F : Int), .int .i64 (C : Int)] 53) = w1 at *
  refine (H.out _ G1.out).mono ?_
  rintro e w2 ⟨rfl, g2⟩
  have e0 := g2.cell E.out.1 (by simp)
  have e1 := g2.cell E.out.2 (by simp)
  have G2 := hide (grown_trans G1.out g2)
  clear g2
  generalize w.heap.size = z at *
  go_wp2
  go_ret2
  have g3 := World.grownBy_alloc w2 (.cells (rgcells b F C).toArray 135) none
  exact ⟨w2.heap.size, rfl, ⟨heap_alloc_new w2 _⟩, by have := G2.out.size; have := hz.out; omega, grown_trans G2.out g3⟩
set_option maxRecDepth 20000 in
set_option maxHeartbeats 1000000 in
theorem gnew_bad (h : Dev w0 w n size b s k D W) (F C : Int) (hF : F ≤ 9223372036854775807) (hok : ¬ spanOk n F C) : Calls Tryz.prog 20 #[.pointer (some ⟨b, 0, none⟩), .agg #[.int .i64 F, .int .i64 C]] w fun e w' => e = .returned (.tuple #[.pointer none, .int .i64 2]) ∧ w.grownBy w' none := by
  unfold spanOk at hok
  have n0 : (n : Int) ≠ 0 := by have := h.disk.disk.shape.n0; omega
  have n1 := h.disk.disk.shape.n1
  have H : Hid (∀ w1, w.grownBy w1 none → Calls Tryz.prog 42 #[.pointer (some ⟨b, 0, none⟩)] w1 fun e w' => e = .returned (.int .i64 (n : Int)) ∧ w1.grownBy w' none) := fun w1 g1 => (dsectors_any (h.then g1)).mono (by rintro e w' ⟨rfl, q, rfl⟩; exact ⟨rfl, grown_drewN _ _ _⟩)
  have G1 := hide (World.grownBy_alloc w (.cells #[.int .i64 F, .int .i64 C] 53) none)
  have E := hide (span_new w F C)
  have hz := hide G1.out.size
  clear h
  by_cases h1 : 0 ≤ F
  · by_cases h2 : 1 ≤ C
    · have h3 : (n : Int) - F < C := by omega
      clear hok
      go_enter Tryz.func20, Tryz.ntmps20
      go_wp2_with fail
      generalize w.alloc (.cells #[.int .i64 F, .int .i64 C] 53) = w1 at *
      refine (H.out _ G1.out).mono ?_
      rintro e w2 ⟨rfl, g2⟩
      have e0 := g2.cell E.out.1 (by simp)
      have e1 := g2.cell E.out.2 (by simp)
      have G2 := hide (grown_trans G1.out g2)
      clear g2
      generalize w.heap.size = z at *
      go_wp2
      go_ret2
      exact ⟨rfl, G2.out⟩
    · clear hok
      go_enter Tryz.func20, Tryz.ntmps20
      go_wp2_with fail
      generalize w.alloc (.cells #[.int .i64 F, .int .i64 C] 53) = w1 at *
      refine (H.out _ G1.out).mono ?_
      rintro e w2 ⟨rfl, g2⟩
      have e0 := g2.cell E.out.1 (by simp)
      have e1 := g2.cell E.out.2 (by simp)
      have G2 := hide (grown_trans G1.out g2)
      clear g2
      generalize w.heap.size = z at *
      go_wp2
      go_ret2
      exact ⟨rfl, G2.out⟩
  · clear hok
    go_enter Tryz.func20, Tryz.ntmps20
    go_wp2_with fail
    generalize w.alloc (.cells #[.int .i64 F, .int .i64 C] 53) = w1 at *
    refine (H.out _ G1.out).mono ?_
    rintro e w2 ⟨rfl, g2⟩
    have e0 := g2.cell E.out.1 (by simp)
    have e1 := g2.cell E.out.2 (by simp)
    have G2 := hide (grown_trans G1.out g2)
    clear g2
    generalize w.heap.size = z at *
    go_wp2
    go_ret2
    exact ⟨rfl, G2.out⟩
end
end Go.Proofs.YtonokaelbpfjnabGreatDoor
/- The sectors that hold some bytes, gone through. -/
namespace Go.Proofs.YtonokaelbpfjnabGreatDoor
open Go.RowKit Ap
attribute [local go_sem ↓] Go.wp_at_zero Go.wp_at_succ

/-- What of the region's sector number at / size + j is meant. -/
def partV (size F at_ m j : Nat) : Value := .agg #[.int .i64 ((F + (at_ / size + j) : Nat) : Int), .int .i64 ((at_ - (at_ / size + j) * size : Nat) : Int), .int .i64 ((min (at_ + m - (at_ / size + j) * size) size : Nat) : Int), .int .i64 (((at_ / size + j) * size - at_ : Nat) : Int)]
/-- The numbers of piece j. -/
structure PcN (size at_ m j S d fr te : Nat) : Prop where
  eS : at_ / size + j = S
  ed : (at_ / size + j) * size - at_ = d
  ef : at_ - (at_ / size + j) * size = fr
  et : min (at_ + m - (at_ / size + j) * size) size = te
  rem : ((at_ : Int) + (d : Int)).tmod (size : Int) = (fr : Int)
  quo : ((at_ : Int) + (d : Int)).tdiv (size : Int) = (S : Int)
  mn : min ((fr : Int) + (m : Int) - (d : Int)) (size : Int) = (te : Int)
  S1 : S ≤ 268435456
  d1 : d < m
  d2 : min m d = d
  f1 : fr < te
  t1 : te ≤ size
  nx : d + (te - fr) = min m ((at_ / size + (j + 1)) * size - at_)
theorem pc_nums {size at_ m j : Nat} (hs : 0 < size) (hm : at_ + m ≤ 268435456) (hj : j < pcn size at_ m) : ∃ S d fr te, PcN size at_ m j S d fr te := by
  obtain ⟨p1, p2, p3, p4⟩ := pc_facts hs hj
  have p5 := pc_next hs hj
  have hd := (pcn_iff hs j).1 hj
  have hS : at_ / size + j ≤ (at_ / size + j) * size := Nat.le_mul_of_pos_right _ hs
  have hr : ((at_ : Int) + (((at_ / size + j) * size - at_ : Nat) : Int)).tmod (size : Int) = ((at_ - (at_ / size + j) * size : Nat) : Int) := by
    rw [← p1, ← Int.natCast_add, ← Int.ofNat_tmod]
  have hq : ((at_ : Int) + (((at_ / size + j) * size - at_ : Nat) : Int)).tdiv (size : Int) = ((at_ / size + j : Nat) : Int) := by
    rw [← Int.natCast_add, ← Int.ofNat_tdiv, p2]
  have key : ∀ Q : Nat, at_ - Q < size → Q < at_ + m → (at_ ≤ Q ∨ Q ≤ at_) → min (((at_ - Q : Nat) : Int) + (m : Int) - ((Q - at_ : Nat) : Int)) (size : Int) = ((min (at_ + m - Q) size : Nat) : Int) ∧ min m (Q - at_) = Q - at_ ∧ at_ - Q < min (at_ + m - Q) size := by
    intro Q h1 h2 h3
    omega
  obtain ⟨k1, k2, k3⟩ := key _ p3 p4 (Nat.le_total _ _)
  exact ⟨_, _, _, _, rfl, rfl, rfl, rfl, hr, hq, k1, by omega, hd, k2, k3, Nat.min_le_right _ _, p5⟩
set_option maxRecDepth 20000 in
set_option maxHeartbeats 4000000 in
theorem each_any (w : World) (r b F at_ m size _n : Nat) (gf : Nat) (c1 c2 : Value) (I : Nat → World → Prop) (J : Int → World → Prop) (hgf : gf = 87 ∨ gf = 116) (hs : 0 < size) (hs1 : size ≤ 4096) (hF : F ≤ 65536) (hm : at_ + m ≤ 268435456)
    (h0 : I 0 w) (hdrew : ∀ j w' q, I j w' → I j (w'.drewN q)) (hcell : ∀ j w', I j w' → w'.cell? ⟨r, 0, none⟩ = some (.pointer (some ⟨b, 0, none⟩)) ∧ w'.cell? ⟨r, 1, none⟩ = some (.int .i64 (F : Int)))
    (hsize : Calls Tryz.prog 81 #[.pointer (some ⟨b, 0, none⟩)] w fun e w' => e = .returned (.int .i64 (size : Int)) ∧ w' = w)
    (hdo : ∀ j w', j < pcn size at_ m → I j w' → Calls Tryz.prog gf #[partV size F at_ m j, c1, c2] w' fun e w'' => ∃ c : Int, e = .returned (.int .i64 c) ∧ (c = 0 ∧ I (j + 1) w'' ∨ c ≠ 0 ∧ J c w'')) :
    Calls Tryz.prog 86 #[.pointer (some ⟨r, 0, none⟩), .int .i64 (at_ : Int), .int .i64 (m : Int), .func (.func gf) #[] #[c1, c2]] w fun e w' => ∃ c : Int, e = .returned (.int .i64 c) ∧ (c = 0 ∧ I (pcn size at_ m) w' ∨ c ≠ 0 ∧ J c w') := by
  have H0 := hide h0
  have HD := hide hdrew
  have HC := hide hcell
  have HS := hide hsize
  have HO := hide hdo
  have a0 := (hcell 0 w h0).1
  have hz : (size : Int) ≠ 0 := by omega
  have HL := hide (pc_last (size := size) (at_ := at_) (n := m) hs)
  clear h0 hdrew hcell hsize hdo
  go_enter Tryz.func86, Tryz.ntmps86
  go_wp2_with fail
  refine HS.out.mono ?_
  rintro e w' ⟨rfl, rfl⟩
  go_wp2
  go_loopg [10] (pcn size at_ m) (fun q i wr => ∃ j : Nat, q + j = pcn size at_ m ∧ i = .int .i64 ((min m ((at_ / size + j) * size - at_) : Nat) : Int) ∧ Hid (I j wr))
  case atStart => exact ⟨0, by omega, by have := Nat.div_mul_le_self at_ size; rw [Nat.add_zero, show at_ / size * size - at_ = 0 by omega, Nat.min_zero]; rfl, H0⟩
  case round =>
    obtain ⟨j, hkj, rfl, HR⟩ := hrel
    by_cases hk : 0 < gk
    · have hj : j < pcn size at_ m := by omega
      obtain ⟨S, d, fr, te, N⟩ := pc_nums hs hm hj
      rw [N.ed, N.d2]
      have HJ := HO.out j
      unfold partV at HJ
      rw [N.ed, N.ef, N.et, N.eS] at HJ
      obtain ⟨c0r, c1r⟩ := HC.out j _ HR.out
      have HJ2 := hide (HJ · hj)
      have hrem := N.rem
      have hquo := N.quo
      have hmn := N.mn
      have hS1 := N.S1
      have hd1 := N.d1
      have hf1 := N.f1
      have ht1 := N.t1
      have HX := hide N.nx
      clear HJ N
      have HR0 := hide hmn
      by_cases hc : (fr : Int) + (m : Int) - (d : Int) ≤ (size : Int)
      · have hte : (te : Int) = (fr : Int) + (m : Int) - (d : Int) := by omega
        rw [hte] at HJ2
        clear hmn HR0
        rcases hgf with rfl | rfl
        all_goals
          go_wp2_with fail
          go_quiet (fail)
          rename_i nq
          have HQ2 := hide (HD.out j wr nq HR.out)
          generalize wr.drewN nq = w2 at *
          clear HR c0r c1r
          go_wp2_with fail
          refine (HJ2.out _ HQ2.out).mono ?_
          rintro e w3 ⟨c, rfl, h3⟩
          have H3 := hide h3
          clear h3
          by_cases hc0 : c = 0
          · subst hc0
            have HI : Hid (I (j + 1) w3) := H3.out.elim (fun h => h.2) (fun h => absurd rfl h.1)
            go_wp2
            go_roundg (gk - 1)
            case measure => omega
            case rel => exact ⟨j + 1, by omega, by rw [← HX.out]; go_num, HI⟩
          · go_wp2
            go_ret
            exact ⟨c, rfl, Or.inr ⟨hc0, H3.out.elim (fun h => absurd h.1 hc0) (fun h => h.2)⟩⟩
      · have hte : (te : Int) = (size : Int) := by omega
        rw [hte] at HJ2
        clear hmn HR0
        rcases hgf with rfl | rfl
        all_goals
          go_wp2_with fail
          go_quiet (fail)
          rename_i nq
          have HQ2 := hide (HD.out j wr nq HR.out)
          generalize wr.drewN nq = w2 at *
          clear HR c0r c1r
          go_wp2_with fail
          refine (HJ2.out _ HQ2.out).mono ?_
          rintro e w3 ⟨c, rfl, h3⟩
          have H3 := hide h3
          clear h3
          by_cases hc0 : c = 0
          · subst hc0
            have HI : Hid (I (j + 1) w3) := H3.out.elim (fun h => h.2) (fun h => absurd rfl h.1)
            go_wp2
            go_roundg (gk - 1)
            case measure => omega
            case rel => exact ⟨j + 1, by omega, by rw [← HX.out]; go_num, HI⟩
          · go_wp2
            go_ret
            exact ⟨c, rfl, Or.inr ⟨hc0, H3.out.elim (fun h => absurd h.1 hc0) (fun h => h.2)⟩⟩
    · have e : j = pcn size at_ m := by omega
      subst e
      rw [Nat.min_eq_left HL.out]
      go_wp2
      go_ret
      exact ⟨0, rfl, Or.inl ⟨rfl, HR.out⟩⟩
end Go.Proofs.YtonokaelbpfjnabGreatDoor
