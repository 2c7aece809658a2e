/- Texts joined: Mrk, Fl0, Fl1. -/
import Derived.Test.YtaopcidkgcekdaaGreatJsAs
import Derived.Test.YtaopcidkgcekdaaGreatJsAe
import Derived.Laws.IdiomStrings
import Derived.Test.YtaopcidkgcekdaaGreatJsAh
/- The marks of rows. -/
namespace Go.Proofs.YtaopcidkgcekdaaGreat
open Go.RowKit Ap
attribute [local go_sem ↓] Go.wp_at_zero Go.wp_at_succ

theorem Tryz.underlying9s : Tryz.prog.underlying 9 = some .string := by kernel_rfl
/-- The bytes of a mark. -/
def mt (k i : Nat) : List Nat := [35, k, 0, 0, 47, i, 0, 0]
def mtU (k i : Nat) : List UInt8 := [35, UInt8.ofNat k, 0, 0, 47, UInt8.ofNat i, 0, 0]
set_option maxRecDepth 20000 in
set_option maxHeartbeats 1000000 in
theorem markText_any (k i : Nat) (w : World) (hk : k < 256) (hi : i < 256) : Calls Tryz.prog 115 #[.int .i64 (k : Int), .int .i64 (i : Int)] w fun e w' => e = .returned (.string ⟨(mtU k i).toArray⟩) ∧ w.grownBy w' none := by
  have e1 : (k : Int) / 256 = 0 := by omega
  have e2 : (k : Int) / 65536 = 0 := by omega
  have e3 : (i : Int) / 256 = 0 := by omega
  have e4 : (i : Int) / 65536 = 0 := by omega
  have ek : (UInt8.ofNat k).toNat = k := by simp; omega
  have ei : (UInt8.ofNat i).toNat = i := by simp; omega
  have r0 := heap_alloc_new w (.cells #[.int .u8 35, .int .u8 (k : Int), .int .u8 0, .int .u8 0, .int .u8 47, .int .u8 (i : Int), .int .u8 0, .int .u8 0] 5)
  have hcv : (convert 32 9 (.slice (some ⟨w.heap.size, 0, none⟩) 8 8)).run Tryz.prog (w.alloc (.cells #[.int .u8 35, .int .u8 (k : Int), .int .u8 0, .int .u8 0, .int .u8 47, .int .u8 (i : Int), .int .u8 0, .int .u8 0] 5)) = .ok (.string ⟨(mtU k i).toArray⟩) (w.alloc (.cells #[.int .u8 35, .int .u8 (k : Int), .int .u8 0, .int .u8 0, .int .u8 47, .int .u8 (i : Int), .int .u8 0, .int .u8 0] 5)) := by
    refine run_convert_bytes_back _ 32 9 5 ⟨w.heap.size, 0, none⟩ 8 (mtU k i) Tryz.underlying32 Tryz.underlying5 Tryz.underlying9s ?_
    intro j hj
    have hj : j < 8 := hj
    rw [Addr.add_lit, Nat.zero_add, cell_row (l := [.int .u8 35, .int .u8 (k : Int), .int .u8 0, .int .u8 0, .int .u8 47, .int .u8 (i : Int), .int .u8 0, .int .u8 0]) r0 j]
    match j, hj with
    | 0, _ => rfl
    | 1, _ => simp [mtU, ek]
    | 2, _ => rfl
    | 3, _ => rfl
    | 4, _ => rfl
    | 5, _ => simp [mtU, ei]
    | 6, _ => rfl
    | 7, _ => rfl
  have G := hide (World.grownBy_alloc w (.cells #[.int .u8 35, .int .u8 (k : Int), .int .u8 0, .int .u8 0, .int .u8 47, .int .u8 (i : Int), .int .u8 0, .int .u8 0] 5) none)
  clear r0 ek ei
  go_enter Tryz.func115, Tryz.ntmps115
  go_wp2
  go_ret
  exact ⟨rfl, G.out⟩
/-- A row of bytes that is the mark of a place. -/
def Mk (w : World) (v : Value) (k i : Nat) : Prop := ∃ g c cs fr, v = .slice (some ⟨g, 0, none⟩) 8 c ∧ w.heap[g]? = some (.cells cs 5 fr) ∧ At w (some ⟨g, 0, none⟩) (mt k i)
theorem Mk.kept {w w' : World} {v : Value} {k i : Nat} {row : Option Nat} (h : Mk w v k i) (hg : w.grownBy w' row) (hr : ∀ r, row = some r → r < w.heap.size → ∃ c t fr, w.heap[r]? = some (.cells c t fr) ∧ t ≠ 5) : Mk w' v k i := by
  obtain ⟨g, c, cs, fr, rfl, h1, h2⟩ := h
  have hne : some g ≠ row := by
    intro e
    obtain ⟨c2, t, fr2, h3, h4⟩ := hr g e.symm (row_lt h1)
    rw [h1] at h3
    simp at h3
    exact h4 h3.2.1.symm
  exact ⟨g, c, cs, fr, rfl, (hg.block g (row_lt h1) hne).trans h1, h2.kept hg (fun a e => by cases e; exact hne)⟩
theorem Mk.form {w : World} {v : Value} {k i : Nat} (h : Mk w v k i) : ∃ g c, v = .slice (some ⟨g, 0, none⟩) 8 c := by
  obtain ⟨g, c, _, _, e, _⟩ := h
  exact ⟨g, c, e⟩
theorem Mk.same {w : World} {v u : Value} {k i : Nat} (h : Mk w v k i) (h2 : Mk w u k i) : Calls Tryz.prog 37 #[v, u] w fun e w' => e = .returned (.bool true) ∧ ∃ q, w' = w.drewN q := by
  obtain ⟨g, c, cs, fr, rfl, _, h1⟩ := h
  obtain ⟨g', c', _, _, rfl, _, h3⟩ := h2
  exact sameBytes_eq _ _ 8 c c' (mt k i) w rfl h1 h3 (by omega)
set_option maxRecDepth 20000 in
set_option maxHeartbeats 1000000 in
theorem markRow_any (k i : Nat) (w : World) (hk : k < 256) (hi : i < 256) : Calls Tryz.prog 114 #[.int .i64 (k : Int), .int .i64 (i : Int)] w fun e w' => ∃ g c, e = .returned (.slice (some ⟨g, 0, none⟩) 8 c) ∧ Mk w' (.slice (some ⟨g, 0, none⟩) 8 c) k i ∧ w.grownBy w' none := by
  have HM := hide (markText_any k i w hk hi)
  have ek : (UInt8.ofNat k).toNat = k := by simp; omega
  have ei : (UInt8.ofNat i).toNat = i := by simp; omega
  have HE := hide (And.intro ek ei)
  clear ek ei
  go_enter Tryz.func114, Tryz.ntmps114
  go_wp2_with fail
  refine HM.out.mono ?_
  rintro e w1 ⟨rfl, g1⟩
  have hcv := run_bytes_of_string (P := Tryz.prog) w1 9 32 5 ⟨(mtU k i).toArray⟩ Tryz.underlying9s Tryz.underlying32 Tryz.underlying5
  have hsz : (ByteArray.mk (mtU k i).toArray).size = 8 := rfl
  rw [hsz] at hcv
  obtain ⟨cc, hcc⟩ : ∃ cc, cc = grownCap w1 8 0 5 := ⟨_, rfl⟩
  rw [← hcc] at hcv
  have hge : 8 ≤ cc := by have := grownCap_ge w1 8 0 5; omega
  have G1 := hide g1
  clear hcc g1 hsz
  obtain ⟨BR, hBR⟩ : ∃ BR, BR = bytesRow ⟨(mtU k i).toArray⟩ cc := ⟨_, rfl⟩
  rw [← hBR] at hcv
  have HBR := hide hBR
  have HGE := hide hge
  clear hBR hge
  go_wp2
  go_ret
  have hb := heap_alloc_new w1.drew (.cells BR 5 (BR.size, BR.size + 1))
  refine ⟨w1.heap.size, cc, rfl, ⟨w1.heap.size, cc, BR, _, rfl, hb, ?_⟩, grown_trans G1.out (grown_trans (grown_drew w1 none) (World.grownBy_alloc w1.drew _ none))⟩
  intro j u hu
  refine ⟨_, rfl, ?_⟩
  have hb2 : (w1.drew.alloc (.cells BR 5 (BR.size, BR.size + 1))).heap[w1.heap.size]? = some (.cells BR.toList.toArray 5 (BR.size, BR.size + 1)) := by simpa using hb
  show (w1.drew.alloc (.cells BR 5 (BR.size, BR.size + 1))).cell? ((⟨w1.heap.size, 0, none⟩ : Addr).add j) = _
  rw [Addr.add_lit, Nat.zero_add, cell_row hb2 j, HBR.out]
  have hj : j < 8 := (List.getElem?_eq_some_iff.1 hu).1
  have e0 : (bytesRow ⟨(mtU k i).toArray⟩ cc).toList = ((mtU k i).map (fun b => Value.int .u8 b.toNat)) ++ List.replicate (cc - 8) (.int .u8 0) := by
    simp [bytesRow, ByteArray.size, mtU]
  rw [e0, List.getElem?_append_left (by simpa [mtU] using hj)]
  match j, hj, hu with
  | 0, _, hu => simp [mt] at hu; subst hu; rfl
  | 1, _, hu => simp [mt] at hu; subst hu; simp [mtU, HE.out.1]
  | 2, _, hu => simp [mt] at hu; subst hu; rfl
  | 3, _, hu => simp [mt] at hu; subst hu; rfl
  | 4, _, hu => simp [mt] at hu; subst hu; rfl
  | 5, _, hu => simp [mt] at hu; subst hu; simp [mtU, HE.out.2]
  | 6, _, hu => simp [mt] at hu; subst hu; rfl
  | 7, _, hu => simp [mt] at hu; subst hu; rfl
end Go.Proofs.YtaopcidkgcekdaaGreat
/- Two lists of rows that lie apart: what flatRows keeps. Plain lemmas. -/
namespace Go.Proofs.YtaopcidkgcekdaaGreat
open Go.RowKit Ap

/-- A step that writes nothing below S, and no row of bytes. -/
structure Grow (S : Nat) (w w' : World) (row : Option Nat) : Prop where
  g : w.grownBy w' row
  low : ∀ r, row = some r → S ≤ r
  ty : ∀ r, row = some r → r < w.heap.size → ∃ c t fr, w.heap[r]? = some (.cells c t fr) ∧ t ≠ 5
theorem Grow.none {S : Nat} {w w' : World} (h : w.grownBy w' none) : Grow S w w' none := ⟨h, (fun r e => by cases e), (fun r e => by cases e)⟩
/-- The two lists. -/
structure FB (w : World) (LS : Nat) (A : Nat → Nat) (N S : Nat) : Prop where
  ls : ∀ k, k < 2 → w.cell? ⟨LS, k, none⟩ = some (.slice (some ⟨A k, 0, none⟩) N N)
  lb : ∃ c, w.heap[LS]? = some (.cells c 41 (0, 0))
  row : ∀ k, k < 2 → ∃ xs : List Value, w.heap[A k]? = some (.cells xs.toArray 32 (0, 0)) ∧ xs.length = N
  ne : A 0 ≠ A 1
  lt : LS < S ∧ ∀ k, k < 2 → A k < S
  top : S ≤ w.heap.size
def Mks (w : World) (A : Nat → Nat) (N : Nat) (c : Nat → Nat → Prop) : Prop := ∀ k j, k < 2 → j < N → c k j → ∃ v, w.cell? ⟨A k, j, none⟩ = some v ∧ Mk w v k j
section
variable {w w' : World} {LS N S : Nat} {A : Nat → Nat} {c c' : Nat → Nat → Prop} {row : Option Nat}
theorem Mk.grow {v : Value} {k i : Nat} (h : Mk w v k i) (hg : Grow S w w' row) : Mk w' v k i := h.kept hg.g hg.ty
theorem FB.grow (h : FB w LS A N S) (hg : Grow S w w' row) : FB w' LS A N S := by
  have hb : ∀ i, i < S → w'.heap[i]? = w.heap[i]? := fun i hi => hg.g.block i (Nat.lt_of_lt_of_le hi h.top) (fun e => by have := hg.low i e.symm; omega)
  refine ⟨fun k hk => ?_, ?_, fun k hk => ?_, h.ne, h.lt, Nat.le_trans h.top hg.g.size⟩
  · have := h.ls k hk
    simp only [World.cell?, hb LS h.lt.1] at this ⊢
    exact this
  · obtain ⟨c, hc⟩ := h.lb
    exact ⟨c, (hb _ h.lt.1).trans hc⟩
  · obtain ⟨xs, h1, h2⟩ := h.row k hk
    exact ⟨xs, (hb _ (h.lt.2 k hk)).trans h1, h2⟩
theorem Mks.grow (hm : Mks w A N c) (h : FB w LS A N S) (hg : Grow S w w' row) : Mks w' A N c := by
  intro k j hk hj hc
  obtain ⟨v, h1, h2⟩ := hm k j hk hj hc
  have hb : w'.heap[A k]? = w.heap[A k]? := hg.g.block (A k) (Nat.lt_of_lt_of_le (h.lt.2 k hk) h.top) (fun e => by have := hg.low _ e.symm; have := h.lt.2 k hk; omega)
  exact ⟨v, by simp only [World.cell?, hb] at h1 ⊢; exact h1, h2.grow hg⟩
theorem Mks.mono (hm : Mks w A N c) (h : ∀ k j, k < 2 → j < N → c' k j → c k j) : Mks w A N c' := fun k j hk hj hc => hm k j hk hj (h k j hk hj hc)
theorem FB.inj (h : FB w LS A N S) {k k' : Nat} (hk : k < 2) (hk' : k' < 2) (e : A k = A k') : k = k' := by
  have := h.ne
  rcases (show k = 0 ∨ k = 1 by omega) with rfl | rfl <;> rcases (show k' = 0 ∨ k' = 1 by omega) with rfl | rfl
  · rfl
  · exact absurd e h.ne
  · exact absurd e.symm h.ne
  · rfl
theorem FB.lsA (h : FB w LS A N S) {k : Nat} (hk : k < 2) : LS ≠ A k := by
  intro e
  obtain ⟨c, hc⟩ := h.lb
  obtain ⟨xs, h1, _⟩ := h.row k hk
  rw [e, h1] at hc
  simp at hc
/-- A cell of a list is written. -/
theorem FB.store (h : FB w LS A N S) {k i : Nat} (hk : k < 2) (v : Value) : FB (w.setCell ⟨A k, i, none⟩ v) LS A N S := by
  have hne := h.lsA hk
  refine ⟨fun k' hk' => ?_, ?_, fun k' hk' => ?_, h.ne, h.lt, by simpa using h.top⟩
  · have := h.ls k' hk'
    have hb := Below.heap_setCell w ⟨A k, i, none⟩ v LS hne
    simp only [World.cell?, hb] at this ⊢
    exact this
  · obtain ⟨c, hc⟩ := h.lb
    exact ⟨c, (Below.heap_setCell w ⟨A k, i, none⟩ v LS hne).trans hc⟩
  · obtain ⟨xs, h1, h2⟩ := h.row k' hk'
    by_cases e : A k' = A k
    · have hr := row_setCell (e ▸ h1) i v
      exact ⟨xs.set i v, by rw [e]; exact hr, by simpa using h2⟩
    · exact ⟨xs, (Below.heap_setCell w ⟨A k, i, none⟩ v (A k') e).trans h1, h2⟩
theorem Mks.store (hm : Mks w A N c) (h : FB w LS A N S) {k i : Nat} (hk : k < 2) (hi : i < N) {v : Value} (hv : Mk w v k i) (hc : ∀ k' j, k' < 2 → j < N → c' k' j → c k' j ∨ (k' = k ∧ j = i)) : Mks (w.setCell ⟨A k, i, none⟩ v) A N c' := by
  obtain ⟨xs, h1, h2⟩ := h.row k hk
  have hr := row_setCell h1 i v
  have hmk : ∀ {u : Value} {k2 i2 : Nat}, Mk w u k2 i2 → Mk (w.setCell ⟨A k, i, none⟩ v) u k2 i2 := fun hu => hu.kept (grown_setCell w (A k) i v) (fun r e _ => by cases e; exact ⟨_, _, _, h1, by decide⟩)
  intro k' j hk' hj hcc
  by_cases e : k' = k ∧ j = i
  · obtain ⟨rfl, rfl⟩ := e
    refine ⟨v, ?_, hmk hv⟩
    rw [cell_row hr, List.getElem?_set_self (by omega)]
  · obtain ⟨u, h3, h4⟩ := hm k' j hk' hj ((hc k' j hk' hj hcc).resolve_right e)
    refine ⟨u, ?_, hmk h4⟩
    by_cases e2 : k' = k
    · subst e2
      rw [cell_row hr, List.getElem?_set_ne (fun e3 => e ⟨rfl, e3.symm⟩)]
      rw [cell_row h1] at h3
      exact h3
    · have e3 : A k' ≠ A k := fun e3 => e2 (h.inj hk' hk e3)
      have hb := Below.heap_setCell w ⟨A k, i, none⟩ v (A k') e3
      simp only [World.cell?, hb] at h3 ⊢
      exact h3
end
/-- A row that has grown, all of whose first M places are marked. -/
def GRow (w : World) (B : Nat) (v : Value) (M L k : Nat) : Prop := ∃ xs, w.ownsRow B 32 1 v M xs ∧ ∀ i y, i < L → xs[i]? = some y → Mk w y k i
theorem GRow.grow {w w' : World} {S B M L k : Nat} {v : Value} {row : Option Nat} (h : GRow w B v M L k) (hg : Grow S w w' row) (hr : ∀ r, v.ownBlock = some r → row ≠ some r) : GRow w' B v M L k := by
  obtain ⟨xs, h1, h2⟩ := h
  refine ⟨xs, ⟨h1.1, ?_⟩, fun i y hi hy => (h2 i y hi hy).grow hg⟩
  rcases h1.2 with h3 | ⟨g, cap, cur, rfl, h4, h5, h6⟩
  · exact Or.inl h3
  · exact Or.inr ⟨g, cap, cur, rfl, h4, (hg.g.block g (row_lt h5) (fun e => hr g rfl e.symm)).trans h5, h6⟩
theorem GRow.cell {w : World} {B M L k i : Nat} {v : Value} (h : GRow w B v M L k) (hi : i < L) (hM : i < M) : ∃ g cap y, v = .slice (some ⟨g, 0, none⟩) M cap ∧ w.cell? ⟨g, i, none⟩ = some y ∧ Mk w y k i := by
  obtain ⟨xs, h1, h2⟩ := h
  have hl : xs.length = M := by simpa using h1.1
  obtain ⟨ao, cap, rfl, h3, _, _⟩ := own_form h1
  obtain ⟨g, rfl⟩ := h3 (by omega)
  have hx : xs[i]? = some xs[i] := List.getElem?_eq_getElem (by omega)
  refine ⟨g, cap, xs[i], rfl, ?_, h2 i _ hi hx⟩
  rw [h1.cellAt i (by omega)]
  exact hx
end Go.Proofs.YtaopcidkgcekdaaGreat
/- Two lists of rows that lie apart: as they have grown. Plain lemmas. -/
namespace Go.Proofs.YtaopcidkgcekdaaGreat
open Go.RowKit Ap

theorem cell_far (w : World) (a b : Addr) (v : Value) (h : b.block ≠ a.block) : (w.setCell a v).cell? b = w.cell? b := by
  have hb := Below.heap_setCell w a v b.block h
  simp only [World.cell?, hb]
theorem Tryz.info41 : (Tryz.prog.info? 41).map (fun i => (i.zero, i.size, i.bytes)) = some (some (.slice none 0 0), 1, 24) := by kernel_rfl
theorem make_two (w : World) : (Instr.makeSlice 77 (.int .i64 2) (.int .i64 2)).run Tryz.prog w = .ok (.slice (some ⟨w.heap.size, 0, none⟩) 2 2) (w.alloc (.cells [Value.slice none 0 0, .slice none 0 0].toArray 41)) := by
  have := run_make_row' (P := Tryz.prog) 77 41 (.slice none 0 0) 24 Tryz.underlying77 Tryz.info41 rfl .i64 .i64 2 (by omega) (by omega) w
  rw [made_lists] at this
  exact this
def nil64 : List Value := List.replicate 64 (Value.slice none 0 0)
theorem nil64_len : nil64.length = 64 := by simp [nil64]
theorem nil64_one : ∀ y ∈ nil64, y.oneCell' = true := fun y hy => by rw [List.eq_of_mem_replicate hy]; rfl
theorem make_64 (w : World) : (Instr.makeSlice 41 (.int .i64 64) (.int .i64 64)).run Tryz.prog w = .ok (.slice (some ⟨w.heap.size, 0, none⟩) 64 64) (w.alloc (.cells nil64.toArray 32)) := make_lists 64 (by omega) w
/-- append to a list of rows that is full, or the call's own. -/
theorem wpList_app {w : World} {ops : Array Oper} {rest : List Oper} {o : Oper} {a : Act} {Q : Exit → Act → World → Prop} (hgd : o.guard = none) (s x : Operand)
    (ho : o.op = .call { callee := .builtin .append, args := #[s, x], argTypes := #[41, 41] }) (S : Nat) (g : Value) (M : Nat) (xs : List Value) (hs : a.eval s = g)
    (hg : (∃ b, g = .slice (some ⟨b, 0, none⟩) M M ∧ w.heap[b]? = some (.cells xs.toArray 32 (0, 0)) ∧ xs.length = M) ∨ w.ownsRow S 32 1 g M xs) (ad : Addr) (m c : Nat) (news : List Value) (hx : a.eval x = .slice (some ad) m c) (hl : news.length = m) (hm : 0 < m)
    (hnews : ∀ j u, news[j]? = some u → w.cell? (ad.add j) = some u) (h1 : ∀ u ∈ news, u.oneCell' = true) (hb : M + m ≤ 400000) (hS : S ≤ w.heap.size)
    (h : ∀ v' w' row, w'.ownsRow S 32 1 v' (M + m) (xs ++ news) → Grow S w w' row → wpList Tryz.prog ops Q rest (a.put o.dst v') w') : wpList Tryz.prog ops Q (o :: rest) a w := by
  obtain ⟨i0, hi, hz0, hz1, hz2⟩ := info_parts Tryz.info32
  rcases hg with ⟨b, rfl, h2, h3⟩ | hown
  · refine wpList_plain hgd fun K hK => ?_
    obtain ⟨v', w', hr, h4, h5⟩ := run_append_arg_grows (P := Tryz.prog) w 41 o.type 32 i0 (.slice none 0 0) 1 24 Tryz.underlying41 hi hz0 hz1 hz2 rfl (by decide) ⟨b, 0, none⟩ M M xs (by simp [h3]) (fun j u hu => by rw [Addr.add_lit, Nat.zero_add, cell_row h2]; exact hu) ad m c news (by simp [hl]) hnews (by omega) (by unfold maxLen; omega) (by omega)
    unfold Oper.wp execOp
    simp only [ho, resolve, invoke, builtin, Sem.run_bind, Sem.run_pure, Result.andThen_ok, List.map_toArray, List.map_cons, List.map_nil, hs, hx, hr]
    exact hK _ _ (h v' w' none (ownsRow_le h4 hS) (Grow.none h5))
  · refine wpList_append_own _ hgd s x 41 ho S 32 i0 (.slice none 0 0) 1 24 Tryz.underlying41 hi hz0 hz1 hz2 rfl (by decide) g M xs hs hown ad m c news hx (by simp [hl]) hnews h1 (by unfold maxLen; omega) (by omega) hS (fun v' w' h4 h5 _ => h v' w' _ h4 ⟨h5, fun r e => (hown.lt r e).1, fun r e hr => ?_⟩)
    obtain ⟨_, cur, hh⟩ := own_block hown r e
    exact ⟨_, _, _, hh, by decide⟩
structure F1 (w0 w : World) (LS : Nat) (A : Nat → Nat) (N S : Nat) (c : Nat → Nat → Prop) : Prop where
  fb : FB w LS A N S
  ms : Mks w A N c
  kp : Kept w0 w (fun i => i = A 0 ∨ i = A 1)
theorem F1.grow {w0 w w' : World} {LS N S : Nat} {A : Nat → Nat} {c : Nat → Nat → Prop} {row : Option Nat} (h : F1 w0 w LS A N S c) (hg : Grow S w w' row) (h0 : w0.heap.size ≤ S) : F1 w0 w' LS A N S c :=
  ⟨h.fb.grow hg, h.ms.grow h.fb hg, h.kp.trans (Kept.of hg.g (S := fun i => S ≤ i) (fun j e _ => hg.low j e)) (fun i hi e => by have e : S ≤ i := e; omega)⟩
theorem F1.store {w0 w : World} {LS N S k i : Nat} {A : Nat → Nat} {c c' : Nat → Nat → Prop} {v : Value} (h : F1 w0 w LS A N S c) (hk : k < 2) (hi : i < N) (hv : Mk w v k i) (hc : ∀ k' j, k' < 2 → j < N → c' k' j → c k' j ∨ (k' = k ∧ j = i)) : F1 w0 (w.setCell ⟨A k, i, none⟩ v) LS A N S c' :=
  ⟨h.fb.store hk v, h.ms.store h.fb hk hi hv hc, h.kp.trans (Kept.of (grown_setCell w (A k) i v) (S := fun j => j = A k) (fun j e _ => (Option.some.inj e).symm)) (fun j hj e => by
    have e : j = A k := e
    rcases (show k = 0 ∨ k = 1 by omega) with rfl | rfl
    · exact .inl e
    · exact .inr e)⟩
theorem Grow.weak {S T : Nat} {w w' : World} {row : Option Nat} (h : Grow T w w' row) (hs : S ≤ T) : Grow S w w' row := ⟨h.g, fun r e => Nat.le_trans hs (h.low r e), h.ty⟩
/-- The two lists, and as they have grown: u k, for the first k. -/
structure F2 (w0 w : World) (LS : Nat) (A : Nat → Nat) (N S G T : Nat) (u : Nat → Value) (k L : Nat) : Prop where
  f1 : F1 w0 w LS A N S (fun _ _ => True)
  gb : w.heap[G]? = some (.cells [u 0, u 1].toArray 41 (0, 0))
  gl : S ≤ G
  gt : G < T
  st : S ≤ T
  tt : T ≤ w.heap.size
  gr : ∀ k', k' < k → GRow w S (u k') (N + 64) L k' ∧ ∀ r, (u k').ownBlock = some r → r < T
section
variable {w0 w w' : World} {LS N S G T k L : Nat} {A : Nat → Nat} {u : Nat → Value} {row : Option Nat}
theorem F2.grow (h : F2 w0 w LS A N S G T u k L) (hg : Grow T w w' row) (h0 : w0.heap.size ≤ S) : F2 w0 w' LS A N S G T u k L := by
  refine ⟨h.f1.grow (hg.weak h.st) h0, (hg.g.block G (row_lt h.gb) (fun e => by have := hg.low G e.symm; have := h.gt; omega)).trans h.gb, h.gl, h.gt, h.st, Nat.le_trans h.tt hg.g.size, fun k' hk' => ⟨?_, (h.gr k' hk').2⟩⟩
  exact (h.gr k' hk').1.grow hg (fun r e e2 => by have := hg.low r e2; have := (h.gr k' hk').2 r e; omega)
theorem GRow.lt {B M : Nat} {v : Value} (h : GRow w B v M L k) : ∀ r, v.ownBlock = some r → r < w.heap.size := fun r e => by obtain ⟨xs, h1, _⟩ := h; exact (h1.lt r e).2
theorem F2.top (h : F2 w0 w LS A N S G T u k L) : F2 w0 w LS A N S G w.heap.size u k L :=
  ⟨h.f1, h.gb, h.gl, row_lt h.gb, Nat.le_trans h.st h.tt, Nat.le_refl _, fun k' hk' => ⟨(h.gr k' hk').1, (h.gr k' hk').1.lt⟩⟩
theorem F2.gcell (h : F2 w0 w LS A N S G T u k L) {k' : Nat} (hk' : k' < 2) : w.cell? ⟨G, k', none⟩ = some (u k') := by
  rw [cell_row h.gb]
  rcases (show k' = 0 ∨ k' = 1 by omega) with rfl | rfl <;> rfl
theorem F2.few {k2 L2 : Nat} (h : F2 w0 w LS A N S G T u k L) (hk : k2 ≤ k) (hL : L2 ≤ L) : F2 w0 w LS A N S G T u k2 L2 :=
  ⟨h.f1, h.gb, h.gl, h.gt, h.st, h.tt, fun k' hk' => ⟨by obtain ⟨xs, h1, h2⟩ := (h.gr k' (by omega)).1; exact ⟨xs, h1, fun i y hi hy => h2 i y (by omega) hy⟩, (h.gr k' (by omega)).2⟩⟩
/-- The k-th is laid down. -/
theorem F2.put (h : F2 w0 w LS A N S G T u k L) (hk : k < 2) (h0 : w0.heap.size ≤ S) {g : Value} (hg : GRow w T g (N + 64) L k) : F2 w0 (w.setCell ⟨G, k, none⟩ g) LS A N S G w.heap.size (fun k' => if k' = k then g else u k') (k + 1) L := by
  have gg : Grow S w (w.setCell ⟨G, k, none⟩ g) (some G) := ⟨grown_setCell w G k g, fun r e => by cases e; exact h.gl, fun r e _ => by cases e; exact ⟨_, _, _, h.gb, by decide⟩⟩
  have noG : ∀ {B M L' k' : Nat} {v : Value}, GRow w B v M L' k' → ∀ r, v.ownBlock = some r → some G ≠ some r := by
    rintro B M L' k' v ⟨xs, h1, _⟩ r e e2
    cases e2
    obtain ⟨_, cur, hh⟩ := own_block h1 G e
    rw [h.gb] at hh
    simp at hh
  refine ⟨h.f1.grow gg h0, ?_, h.gl, row_lt h.gb, Nat.le_trans h.st h.tt, by simp, ?_⟩
  · have := row_setCell h.gb k g
    rw [this]
    rcases (show k = 0 ∨ k = 1 by omega) with rfl | rfl <;> simp
  · intro k' hk'
    by_cases e : k' = k
    · subst e
      simp only [if_true]
      obtain ⟨xs, h1, h2⟩ := hg
      have hgS : GRow w S g (N + 64) L k' := ⟨xs, ownsRow_le h1 h.st, h2⟩
      exact ⟨hgS.grow gg (noG hgS), hgS.lt⟩
    · simp only [if_neg e]
      have hr := (h.gr k' (by omega)).1
      exact ⟨hr.grow gg (noG hr), hr.lt⟩
end
/-- A list that is being grown. -/
def GApp (w : World) (T : Nat) (g : Value) (M k : Nat) : Prop := ∃ xs, ((∃ b, g = .slice (some ⟨b, 0, none⟩) M M ∧ w.heap[b]? = some (.cells xs.toArray 32 (0, 0)) ∧ xs.length = M) ∨ w.ownsRow T 32 1 g M xs) ∧ ∀ i y, xs[i]? = some y → Mk w y k i
theorem GApp.new {w w' : World} {T M k : Nat} {g : Value} (h : GApp w T g M k) (hg : w.grownBy w' none) : GApp w' T g M k := by
  obtain ⟨xs, h1, h2⟩ := h
  refine ⟨xs, ?_, fun i y hy => (h2 i y hy).kept hg (fun r e => by cases e)⟩
  rcases h1 with ⟨b, rfl, h3, h4⟩ | h1
  · exact Or.inl ⟨b, rfl, (hg.block b (row_lt h3) (by simp)).trans h3, h4⟩
  · exact Or.inr (h1.kept hg (Classical.em _))
theorem GApp.form {w : World} {T M k : Nat} {g : Value} (h : GApp w T g M k) : ∃ ao c, g = .slice ao M c := by
  obtain ⟨xs, h1, h2⟩ := h
  rcases h1 with ⟨b, rfl, h3, h4⟩ | h1
  · exact ⟨_, _, rfl⟩
  · obtain ⟨ao, c, e, _⟩ := own_form h1
    exact ⟨ao, c, e⟩
theorem GApp.start {w0 w : World} {LS N S G T k L : Nat} {A : Nat → Nat} {u : Nat → Value} (h : F2 w0 w LS A N S G T u k L) (hk : k < 2) : GApp w T (.slice (some ⟨A k, 0, none⟩) N N) N k := by
  obtain ⟨xs, h1, h2⟩ := h.f1.fb.row k hk
  refine ⟨xs, Or.inl ⟨A k, rfl, h1, h2⟩, fun i y hy => ?_⟩
  have hi : i < N := by have := (List.getElem?_eq_some_iff.1 hy).1; omega
  obtain ⟨v, h3, h4⟩ := h.f1.ms k i hk hi trivial
  rw [cell_row h1, hy] at h3
  cases h3
  exact h4
end Go.Proofs.YtaopcidkgcekdaaGreat
