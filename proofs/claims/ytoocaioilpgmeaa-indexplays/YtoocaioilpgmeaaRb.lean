/- The document's index: New, Slots, Get, Set, Put, Drop. -/
import Derived.Test.YtoocaioilpgmeaaRa
namespace Go.Proofs.Ytoocaioilpgmeaa
open Go.RowKit Ix Go.Shelf
attribute [local go_sem ↓] Go.wp_at_zero Go.wp_at_succ
theorem en_cons (y : Nat × Int) (r : List (Nat × Int)) (j : Nat) : en (y :: r) (j + 1) = en r j := by simp [en]
theorem Plc.tail {y : Nat × Int} {r : List (Nat × Int)} {k i : Nat} (h : Plc (y :: r) k (i + 1)) : Plc r k i :=
  ⟨by have := h.le; simp at this; exact this, fun j hj => by have := h.lo (j + 1) (by omega); rw [en_cons] at this; exact this, fun j h1 h2 => by have := h.hi (j + 1) (by omega) (by simp; omega); rw [en_cons] at this; exact this⟩
theorem ins_plc : ∀ {X : List (Nat × Int)} {k i : Nat}, Asc X → Plc X k i → lk X k = none → ∀ v, ins X (k, v) = X.take i ++ (k, v) :: X.drop i
  | [], k, i, _, h, _, v => by have := h.le; simp at this; subst this; simp [ins]
  | y :: r, k, 0, hA, h, hn, v => by
    have h1 := h.hi 0 (Nat.le_refl _) (by simp)
    have h2 : y.1 ≠ k := fun e => lk_none.1 hn y.2 (by rw [← e]; exact List.mem_cons_self ..)
    have h3 : (en (y :: r) 0) = y := rfl
    rw [h3] at h1
    simp only [ins]
    rw [if_pos (show k < y.1 by omega)]
    simp
  | y :: r, k, i + 1, hA, h, hn, v => by
    have h1 := h.lo 0 (by omega)
    have h3 : (en (y :: r) 0) = y := rfl
    rw [h3] at h1
    simp only [ins]
    rw [if_neg (show ¬ k < y.1 by omega), ins_plc (List.pairwise_cons.1 hA).2 h.tail (lk_none.2 (fun u hu => lk_none.1 hn u (List.mem_cons_of_mem _ hu))) v]
    simp
theorem dr_plc : ∀ {X : List (Nat × Int)} {k i : Nat}, Asc X → i < X.length → (en X i).1 = k → dr X k = X.take i ++ X.drop (i + 1)
  | [], k, i, _, h, _ => by simp at h
  | y :: r, k, 0, hA, h, he => by
    have h3 : (en (y :: r) 0) = y := rfl
    rw [h3] at he
    have hr : r.filter (fun x => x.1 != k) = r := by
      rw [List.filter_eq_self]
      intro a ha
      have := (List.pairwise_cons.1 hA).1 a ha
      simp; omega
    simp [dr, he, hr]
  | y :: r, k, i + 1, hA, h, he => by
    rw [en_cons] at he
    have hi : i < r.length := by simpa using h
    have hlt : y.1 < k := by have := asc_en hA (i := 0) (j := i + 1) (by omega) h; rw [en_cons, he] at this; exact this
    have := dr_plc (List.pairwise_cons.1 hA).2 hi he
    have hb : (y.1 != k) = true := by simp; omega
    simp only [dr] at this ⊢
    rw [List.filter_cons, if_pos hb, this]
    simp
theorem up_plc {X : List (Nat × Int)} {k i : Nat} (hA : Asc X) (hi : i < X.length) (he : (en X i).1 = k) (v : Int) : up X k v = X.set i (k, v) := by
  apply List.ext_getElem?
  intro j
  unfold up
  rw [List.getElem?_map, List.getElem?_set]
  by_cases hj : i = j
  · subst hj
    rw [if_pos rfl, if_pos hi, List.getElem?_eq_getElem hi]
    have : X[i].1 = k := by unfold en at he; rw [List.getElem?_eq_getElem hi] at he; exact he
    simp [this]
  · rw [if_neg hj]
    by_cases hjl : j < X.length
    · rw [List.getElem?_eq_getElem hjl]
      have hne : X[j].1 ≠ k := by
        have e1 : en X j = X[j] := by unfold en; rw [List.getElem?_eq_getElem hjl]; rfl
        rcases Nat.lt_or_ge i j with h1 | h1
        · have := asc_en hA h1 hjl; rw [e1] at this; omega
        · have := asc_en hA (i := j) (j := i) (by omega) hi; rw [e1] at this; omega
      simp [hne]
    · rw [List.getElem?_eq_none (by omega)]; rfl
theorem icells_set (X : List (Nat × Int)) (i : Nat) (y : Nat × Int) : icells (X.set i y) = ((icells X).set (i * 2) (.int .u32 (y.1 : Int))).set (i * 2 + 1) (.int .i64 y.2) := by
  induction X generalizing i with
  | nil => simp [icells]
  | cons z s ih =>
    have e1 : ∀ (z : Nat × Int) (t : List (Nat × Int)), icells (z :: t) = .int .u32 (z.1 : Int) :: .int .i64 z.2 :: icells t := fun z t => by simp [icells]
    cases i with
    | zero => rw [List.set_cons_zero, e1, e1]; simp
    | succ i => rw [List.set_cons_succ, e1, e1, ih i, show (i + 1) * 2 = i * 2 + 1 + 1 by omega]; rfl
theorem icells_take (X : List (Nat × Int)) (k : Nat) : icells (X.take k) = (icells X).take (k * 2) := by
  induction X generalizing k with
  | nil => simp [icells]
  | cons y s ih =>
    cases k with
    | zero => simp [icells]
    | succ k =>
      rw [List.take_succ_cons, show (k + 1) * 2 = k * 2 + 1 + 1 by omega]
      have e1 : ∀ (z : Nat × Int) (t : List (Nat × Int)), icells (z :: t) = .int .u32 (z.1 : Int) :: .int .i64 z.2 :: icells t := fun z t => by simp [icells]
      rw [e1, e1, ih]; rfl
theorem icells_drop (X : List (Nat × Int)) (k : Nat) : icells (X.drop k) = (icells X).drop (k * 2) := by
  induction X generalizing k with
  | nil => simp [icells]
  | cons y s ih =>
    cases k with
    | zero => simp
    | succ k =>
      rw [List.drop_succ_cons, ih, show (k + 1) * 2 = k * 2 + 1 + 1 by omega]
      simp [icells]
theorem icells_one (X : List (Nat × Int)) : ∀ u ∈ icells X, u.oneCell' = true := fun u hu => by
  simp [icells] at hu
  obtain ⟨a, b, _, hu⟩ := hu
  rcases hu with rfl | rfl <;> rfl
theorem icells_append (X Y : List (Nat × Int)) : icells (X ++ Y) = icells X ++ icells Y := by simp [icells]
/-- What a step leaves of the document's index: the same head, a row that is its old one or a new one. -/
structure Rst (w w' : World) (r : Nat) (vl vl' : Value) : Prop where
  kept : Kept w w' (fun j => j = r ∨ vl.ownBlock = some j)
  own : ∀ g, vl'.ownBlock = some g → vl.ownBlock = some g ∨ w.heap.size ≤ g
theorem Rst.refl (w : World) (r : Nat) (vl : Value) : Rst w w r vl vl := ⟨Kept.refl _ _, fun _ e => .inl e⟩
theorem Rst.new {w w' : World} (g : w.grownBy w' none) (r : Nat) (vl : Value) : Rst w w' r vl vl := ⟨Kept.new g _, fun _ e => .inl e⟩
theorem Rst.from {w w1 w' : World} {r : Nat} {vl vl' : Value} (g : w.grownBy w1 none) (h : Rst w1 w' r vl vl') : Rst w w' r vl vl' :=
  ⟨(Kept.new g _).trans h.kept (fun _ _ e => e), fun q hq => (h.own q hq).imp id (fun e => Nat.le_trans g.size e)⟩
theorem slice_to (g i n cap : Nat) (hi : i ≤ cap) (w : World) : (Instr.slice 49 (.slice (some ⟨g, 0, none⟩) n cap) none (some (.int .i64 (i : Int))) none).run Try.prog w = .ok (.slice (some ⟨g, 0, none⟩) i cap) w := by
  simp [Instr.slice, run_underlying Try.underlying49, Instr.sliceBounds, Instr.sliceBound, asIntOf]
  rw [if_pos hi]
  simp [Addr.add]
theorem slice_from (g i n cap : Nat) (hi : i ≤ n) (_hn : n ≤ cap) (w : World) : (Instr.slice 49 (.slice (some ⟨g, 0, none⟩) n cap) (some (.int .i64 (i : Int))) none none).run Try.prog w = .ok (.slice (some ⟨g, if cap = i then 0 else i * 2, none⟩) (n - i) (cap - i)) w := by
  simp [Instr.slice, run_underlying Try.underlying49, Instr.sliceBounds, Instr.sliceBound, asIntOf]
  rw [if_pos hi]
  split
  · rfl
  · simp [Addr.add]
    try omega
theorem info75 : (Try.prog.info? 75).map (fun i => (i.zero, i.size, i.bytes)) = some (some (.agg #[.int .u32 0, .int .i64 0]), 2, 16) := by kernel_rfl
section
variable {w w' : World} {B0 r m : Nat} {vl : Value} {X : List (Nat × Int)}
theorem rnew_any (m : Nat) (h1 : 1 ≤ m) (h2 : m ≤ 4096) (w : World) : Calls Try.prog 19 #[.int .i64 (m : Int)] w fun e w' => ∃ r, e = .returned (.tuple #[.pointer (some ⟨r, 0, none⟩), .int .i64 0]) ∧ RfAt w' w.heap.size r m (.slice none 0 0) [] ∧ w.grownBy w' none := by
  have b1 : ¬ ((m : Int) < 1) := by omega
  have b2 : ¬ ((4096 : Int) < m) := by omega
  clear h1 h2
  go_enter Try.func19, Try.ntmps19
  go_wp2
  go_ret2
  exact ⟨w.heap.size, rfl, ⟨heap_alloc_new w _, World.ownsRow_nil _ _ _ _, Nat.le_refl _⟩, World.grownBy_alloc w _ none⟩
theorem rnew_bad (m : Int) (h : m < 1 ∨ 4096 < m) (w : World) : Calls Try.prog 19 #[.int .i64 m] w fun e w' => e = .returned (.tuple #[.pointer none, .int .i64 2]) ∧ w' = w := by
  rcases h with h | h
  · go_enter Try.func19, Try.ntmps19
    go_wp2
    go_ret2
    exact ⟨rfl, rfl⟩
  · have b1 : ¬ (m < 1) := by omega
    go_enter Try.func19, Try.ntmps19
    go_wp2
    go_ret2
    exact ⟨rfl, rfl⟩
theorem rslots_any (h : RfAt w B0 r m vl X) (h1 : 1 ≤ m) (h2 : m ≤ 4096) : Calls Try.prog 21 #[.pointer (some ⟨r, 0, none⟩)] w fun e w' => ∃ n : Nat, e = .returned (.int .i64 (n : Int)) ∧ Sz m n ∧ w' = w := by
  obtain ⟨c0, -⟩ := h.cells
  clear h
  go_enter Try.func21, Try.ntmps21
  go_wp2
  go_loopg [3] 13 (fun q v wr => ∃ n : Nat, v = .int .i64 (n : Int) ∧ n ≤ 8192 ∧ Hid (wr = w ∧ n = 2 ^ (13 - q) ∧ q ≤ 13 ∧ ∀ i, i < 13 - q → 2 ^ i < 2 * m))
  case atStart => exact ⟨1, rfl, by decide, rfl, rfl, by decide, fun i hi => by omega⟩
  case round =>
    obtain ⟨n, rfl, hn, HR⟩ := hrel
    have hwr := HR.out.1
    have c0' : wr.cell? ⟨r, 0, none⟩ = some (.int .i64 (m : Int)) := by rw [hwr]; exact c0
    clear hwr
    by_cases hlt : n < 2 * m
    · have hq : 1 ≤ gk := by
        rcases Nat.eq_zero_or_pos gk with h0 | h0
        · obtain ⟨_, e, _, _⟩ := HR.out; rw [h0] at e; omega
        · exact h0
      have hlt' : ((n : Int)) < 2 * (m : Int) := by omega
      go_wp2
      go_roundg (gk - 1)
      case rel =>
        obtain ⟨e1, e2, e3, e4⟩ := HR.out
        have e5 : 13 - (gk - 1) = (13 - gk) + 1 := by omega
        refine ⟨n * 2, by simp; omega, by rw [e2, ← Nat.pow_succ]; exact pow_lt14 _ (by omega), e1, by rw [e5, Nat.pow_succ, ← e2], by omega, fun i hi => ?_⟩
        rcases Nat.lt_or_ge i (13 - gk) with h | h
        · exact e4 i h
        · rw [show i = 13 - gk by omega, ← e2]; exact hlt
      case measure => omega
    · have hlt' : decide ((n : Int) < 2 * (m : Int)) = false := by simp; omega
      have hlt2 : ¬ ((n : Int) < 2 * (m : Int)) := by omega
      go_wp2
      go_ret
      obtain ⟨e1, e2, e3, e4⟩ := HR.out
      refine ⟨n, rfl, ⟨by omega, 13 - gk, e2, fun i hi => ?_⟩, e1⟩
      rcases Nat.lt_or_ge i (13 - gk) with h | h
      · have := e4 i h; omega
      · exact h
set_option maxRecDepth 20000 in
theorem rget_at (h : RfAt w B0 r m vl X) (hX : X.length ≤ 65536) (hA : Asc X) (k : Nat) : Calls Try.prog 35 #[.pointer (some ⟨r, 0, none⟩), .int .u32 (k : Int)] w fun e w' => e = .returned (.tuple #[.int .i64 ((lk X k).getD 0), .bool (lk X k).isSome]) ∧ w.grownBy w' none := by
  have hp := rat_at h hX hA k
  obtain ⟨b, hb⟩ : ∃ b, (lk X k).isSome = b := ⟨_, rfl⟩
  obtain ⟨hy, hn⟩ := lk_val hA hb
  rw [hb] at hp ⊢
  have HH := hide (And.intro h (And.intro hA hb))
  cases b with
  | false =>
    rw [hn rfl]
    simp only [Option.getD]
    clear h hA hb hy hn
    go_enter Try.func35, Try.ntmps35
    go_wp2_with fail
    refine hp.mono ?_
    rintro e w1 ⟨i, rfl, -, g1⟩
    have G := hide g1
    clear g1 hp
    go_wp2
    go_ret2
    exact ⟨rfl, G.out⟩
  | true =>
    obtain ⟨v, hv, -⟩ := hy rfl
    have HV := hide hv
    rw [hv]
    simp only [Option.getD]
    clear h hA hb hy hn hv
    go_enter Try.func35, Try.ntmps35
    go_wp2_with fail
    refine hp.mono ?_
    clear hp
    rintro e w1 ⟨i, rfl, hP, g1⟩
    obtain ⟨hf1, hf2⟩ := hP.found HH.out.2.1
    rw [HH.out.2.2] at hf1
    simp at hf1
    obtain ⟨hi, he⟩ := hf1
    have hval := hf2 hi he
    rw [HV.out] at hval
    have h1 := HH.out.1.grown g1
    obtain ⟨-, c1⟩ := h1.cells
    obtain ⟨g, cap, cur, rfl, -, hg, -, -, -, ht⟩ := own_row h1.row (by omega)
    have z2 := own_cell hg ht (icells_get hi).2
    rw [show (en X i).2 = v by injection hval with e; exact e.symm] at z2
    have b1 : ((i : Int) < (X.length : Int)) = True := by simp; omega
    have G := hide g1
    clear g1 h1 hg ht hP hf2 hval he
    go_wp2
    go_ret2
    exact ⟨rfl, G.out⟩
/-- A place of the row, written. -/
theorem own_put {g n cap i : Nat} (h : w.ownsRow B0 75 2 (.slice (some ⟨g, 0, none⟩) n cap) n (icells X)) (y : Nat × Int) : ((w.setCell ⟨g, i * 2, none⟩ (.int .u32 (y.1 : Int))).setCell ⟨g, i * 2 + 1, none⟩ (.int .i64 y.2)).ownsRow B0 75 2 (.slice (some ⟨g, 0, none⟩) n cap) n (icells (X.set i y)) ∧ Kept w ((w.setCell ⟨g, i * 2, none⟩ (.int .u32 (y.1 : Int))).setCell ⟨g, i * 2 + 1, none⟩ (.int .i64 y.2)) (fun j => j = g) := by
  have k := (kept_setCell w g (i * 2) (.int .u32 (y.1 : Int))).trans (kept_setCell (w.setCell ⟨g, i * 2, none⟩ (.int .u32 (y.1 : Int))) g (i * 2 + 1) (.int .i64 y.2)) (fun _ _ e => e)
  refine ⟨?_, k⟩
  rcases h.2 with ⟨h1, h0⟩ | ⟨g2, cap2, cur2, hv2, hb2, hg2, hn2, hm2, hs2, ht2⟩
  · cases h1
  · cases hv2
    have hg2' : w.heap[g]? = some (.cells cur2.toList.toArray 75 (0, 0)) := by simpa using hg2
    refine ⟨by rw [icells_length, List.length_set, ← icells_length]; exact h.1, Or.inr ⟨g, cap, ((cur2.toList.set (i * 2) (.int .u32 (y.1 : Int))).set (i * 2 + 1) (.int .i64 y.2)).toArray, rfl, hb2, row_setCell (row_setCell hg2' _ _) _ _, hn2, hm2, by simpa using hs2, ?_⟩⟩
    rw [icells_set, ← ht2]
    simp [List.take_set]
theorem RfAt.ne (h : RfAt w B0 r m vl X) {g : Nat} (hg : vl.ownBlock = some g) : g ≠ r := fun e => by
  obtain ⟨_, cur, hc⟩ := own_block h.row hg
  rw [e, h.head] at hc
  simp at hc
set_option maxRecDepth 20000 in
theorem rset_at (h : RfAt w B0 r m vl X) (hX : X.length ≤ 65536) (hA : Asc X) (k : Nat) (v : Int) : Calls Try.prog 34 #[.pointer (some ⟨r, 0, none⟩), .int .u32 (k : Int), .int .i64 v] w fun e w' => e = .returned (.bool (lk X k).isSome) ∧ RfAt w' B0 r m vl (up X k v) ∧ Rst w w' r vl vl := by
  have hp := rat_at h hX hA k
  obtain ⟨b, hb⟩ : ∃ b, (lk X k).isSome = b := ⟨_, rfl⟩
  obtain ⟨hy, hn⟩ := lk_val hA hb
  rw [hb] at hp ⊢
  have HH := hide (And.intro h (And.intro hA hb))
  cases b with
  | false =>
    rw [up_none (hn rfl)]
    clear h hA hb hy hn
    go_enter Try.func34, Try.ntmps34
    go_wp2_with fail
    refine hp.mono ?_
    rintro e w1 ⟨i, rfl, -, g1⟩
    have G := hide g1
    clear g1 hp
    go_wp2
    go_ret
    exact ⟨rfl, HH.out.1.grown G.out, Rst.new G.out _ _⟩
  | true =>
    clear h hA hb hy hn
    go_enter Try.func34, Try.ntmps34
    go_wp2_with fail
    refine hp.mono ?_
    clear hp
    rintro e w1 ⟨i, rfl, hP, g1⟩
    obtain ⟨hf1, hf2⟩ := hP.found HH.out.2.1
    rw [HH.out.2.2] at hf1
    simp at hf1
    obtain ⟨hi, he⟩ := hf1
    have h1 := HH.out.1.grown g1
    obtain ⟨-, c1⟩ := h1.cells
    have hnr := fun g (e : vl.ownBlock = some g) => h1.ne e
    obtain ⟨g, cap, cur, rfl, -, hg, -, -, -, ht⟩ := own_row h1.row (by omega)
    have z2 := own_cell hg ht (icells_get hi).2
    have f2 := free_row hg (i * 2 + 1)
    have H1 : Hid (RfAt (w1.setCell ⟨g, i * 2 + 1, none⟩ (.int .i64 v)) B0 r m (.slice (some ⟨g, 0, none⟩) X.length cap) (up X k v) ∧ Rst w (w1.setCell ⟨g, i * 2 + 1, none⟩ (.int .i64 v)) r (.slice (some ⟨g, 0, none⟩) X.length cap) (.slice (some ⟨g, 0, none⟩) X.length cap)) := by
      have k3 := kept_setCell w1 g (i * 2 + 1) (.int .i64 v)
      refine ⟨⟨k3.at h1.head (fun e => hnr g rfl e.symm), ?_, h1.base⟩, Rst.from g1 ⟨k3.mono (fun j _ e => .inr (by rw [e]; rfl)), fun _ e => .inl e⟩⟩
      rw [up_length]
      rcases h1.row.2 with ⟨h1', h0⟩ | ⟨g2, cap2, cur2, hv2, hb2, hg2, hn2, hm2, hs2, ht2⟩
      · cases h1'
      · cases hv2
        have hg2' : w1.heap[g]? = some (.cells cur2.toList.toArray 75 (0, 0)) := by simpa using hg2
        have hcl : icells (up X k v) = (icells X).set (i * 2 + 1) (.int .i64 v) := by
          rw [up_plc HH.out.2.1 hi he, icells_set]
          congr 1
          refine set_same ?_
          rw [(icells_get hi).1, he]
        refine ⟨by rw [hcl, List.length_set]; exact h1.row.1, Or.inr ⟨g, cap, (cur2.toList.set (i * 2 + 1) (.int .i64 v)).toArray, rfl, hb2, row_setCell hg2' _ _, hn2, hm2, by simpa using hs2, ?_⟩⟩
        rw [hcl, ← ht2]
        simp [List.take_set]
    have b1 : ((i : Int) < (X.length : Int)) = True := by simp; omega
    clear g1 h1 hg ht hP hf2 he hnr
    generalize (en X i).2 = y2 at *
    generalize hW : w1.setCell ⟨g, i * 2 + 1, none⟩ (.int .i64 v) = W at *
    go_wp2
    go_ret
    exact ⟨rfl, H1.out⟩
end
end Go.Proofs.Ytoocaioilpgmeaa
