/- Texts joined: Va, Vc. -/
import Derived.Test.YtcbiloomnkbalaaGreatDoorJyAq
import Derived.Test.YtcbiloomnkbalaaGreatDoorJyAn
import Derived.Test.YtcbiloomnkbalaaGreatDoorJyAp
/- Bookings that are lent: marks, LentBookings. -/
namespace Go.Proofs.YtcbiloomnkbalaaGreatDoor
open Go.RowKit Go.Shelf
attribute [local go_sem ↓] Go.wp_at_zero Go.wp_at_succ
attribute [local go_sem] Oper.semAt_some
def bwc (x : Bw) : List Value := [.int .u32 (x.i : Int), .int .i64 x.s, .int .i64 x.u]
def bwcs (X : List Bw) : List Value := X.flatMap bwc
theorem bwc_length (r : Bw) : (bwc r).length = 3 := rfl
theorem bwcs_cons (r : Bw) (l : List Bw) : bwcs (r :: l) = bwc r ++ bwcs l := by simp [bwcs]
theorem bwcs_append (l m : List Bw) : bwcs (l ++ m) = bwcs l ++ bwcs m := by simp [bwcs]
theorem bwcs_length (l : List Bw) : (bwcs l).length = l.length * 3 := by
  induction l with
  | nil => rfl
  | cons r l ih => rw [bwcs_cons, List.length_append, ih, bwc_length, List.length_cons]; omega
theorem bwcs_at {l : List Bw} {i : Nat} {r : Bw} (h : l[i]? = some r) {o : Nat} (ho : o < 3) : (bwcs l)[i * 3 + o]? = (bwc r)[o]? := by
  induction l generalizing i with
  | nil => simp at h
  | cons q l ih =>
    rw [bwcs_cons]
    cases i with
    | zero =>
      simp at h
      subst h
      rw [List.getElem?_append_left (by rw [bwc_length]; omega)]
      simp
    | succ i =>
      rw [List.getElem?_append_right (by rw [bwc_length]; omega), bwc_length, show (i + 1) * 3 + o - 3 = i * 3 + o by omega]
      exact ih (by simpa using h)
theorem bwcs_get {l : List Bw} {j : Nat} {u : Value} (h : (bwcs l)[j]? = some u) : ∃ r, l[j / 3]? = some r ∧ (bwc r)[j % 3]? = some u := by
  have hj : j < l.length * 3 := by have := (List.getElem?_eq_some_iff.1 h).1; rwa [bwcs_length] at this
  have hi : j / 3 < l.length := by omega
  refine ⟨l[j / 3], List.getElem?_eq_getElem hi, ?_⟩
  rw [← bwcs_at (List.getElem?_eq_getElem hi) (Nat.mod_lt _ (by decide)), show j / 3 * 3 + j % 3 = j by omega]
  exact h
theorem bwcs_rd {X : List Bw} {i : Nat} (h : i < X.length) : (bwcs X)[i * 3]? = some (.int .u32 ((rdw X i).i : Int)) ∧ (bwcs X)[i * 3 + 1]? = some (.int .i64 (rdw X i).s) ∧ (bwcs X)[i * 3 + 2]? = some (.int .i64 (rdw X i).u) := by
  induction X generalizing i with
  | nil => simp at h
  | cons y r ih =>
    have e : bwcs (y :: r) = .int .u32 (y.i : Int) :: .int .i64 y.s :: .int .i64 y.u :: bwcs r := by simp [bwcs, bwc]
    cases i with
    | zero => rw [e]; exact ⟨rfl, rfl, rfl⟩
    | succ i =>
      have := ih (i := i) (by simpa using h)
      have er : rdw (y :: r) (i + 1) = rdw r i := by simp [rdw]
      rw [e, er, show (i + 1) * 3 = i * 3 + 3 by omega]
      exact this
theorem bwcs_one (X : List Bw) : ∀ u ∈ bwcs X, u.oneCell' = true := by
  intro u hu
  simp only [bwcs, List.mem_flatMap] at hu
  obtain ⟨x, _, h⟩ := hu
  simp only [bwc, List.mem_cons, List.not_mem_nil, or_false] at h
  rcases h with rfl | rfl | rfl <;> rfl
theorem BwA.own {w : World} {b : Nat} {v : Value} {X : List Bw} (h : w.ownsRow b 78 3 v X.length (bwcs X)) : BwA w v X := by
  rcases h.2 with ⟨rfl, h0⟩ | ⟨g, cap, cur, rfl, hb, hg, h1, h2, h3, h4⟩
  · refine ⟨none, 0, ?_, fun i hi => ?_⟩
    · have : X.length = 0 := h0
      rw [this]
    · omega
  · have hc := h.cells (g := g) rfl
    refine ⟨some ⟨g, 0, none⟩, cap, rfl, fun i hi => ⟨g, rfl, ?_⟩⟩
    obtain ⟨q1, q2, q3⟩ := bwcs_rd hi
    have c1 := hc _ _ q1; have c2 := hc _ _ q2; have c3 := hc _ _ q3
    rw [Addr.add_lit, Nat.zero_add] at c1 c2 c3
    exact ⟨c1, c2, c3⟩
/-- Bookings as they are told, that lie somewhere. -/
def BwsAt (w : World) (ao : Option Addr) (rs : List Bw) : Prop := ∀ j r, rs[j]? = some r → ∃ blk off, ao = some (⟨blk, off, none⟩ : Addr) ∧ w.cell? ⟨blk, off + j * 3, none⟩ = some (.int .u32 (r.i : Int)) ∧ w.cell? ⟨blk, off + j * 3 + 1, none⟩ = some (.int .i64 r.s) ∧ w.cell? ⟨blk, off + j * 3 + 2, none⟩ = some (.int .i64 r.u)
theorem BwsAt.grown {w w' : World} {ao : Option Addr} {os : List Bw} (h : BwsAt w ao os) (g : w.grownBy w' none) : BwsAt w' ao os := by
  intro j o hj
  obtain ⟨b, off, e, h1, h2, h3⟩ := h j o hj
  exact ⟨b, off, e, g.cell h1 (by simp), g.cell h2 (by simp), g.cell h3 (by simp)⟩
theorem BwsAt.form {w : World} {ao : Option Addr} {l : List Bw} (h : BwsAt w ao l) (hl : l ≠ []) : ∃ g off, ao = some ⟨g, off, none⟩ := by
  obtain ⟨x, r, rfl⟩ := List.exists_cons_of_ne_nil hl
  obtain ⟨b, off, e, -⟩ := h 0 x rfl
  exact ⟨b, off, e⟩
theorem BwsAt.cells {w : World} {g off : Nat} {l : List Bw} (h : BwsAt w (some ⟨g, off, none⟩) l) : ∀ j u, (bwcs l)[j]? = some u → w.cell? (Addr.add ⟨g, off, none⟩ j) = some u := by
  intro j u hj
  obtain ⟨r, h1, h2⟩ := bwcs_get hj
  obtain ⟨b, o, e, c0, c1, c2⟩ := h _ r h1
  cases e
  rw [Addr.add_lit]
  have hm : j % 3 < 3 := Nat.mod_lt _ (by decide)
  have hd : j = j / 3 * 3 + j % 3 := by omega
  generalize hk : j % 3 = k at *
  generalize j / 3 = i at *
  rw [hd]
  have : k = 0 ∨ k = 1 ∨ k = 2 := by omega
  rcases this with rfl | rfl | rfl <;> simp [bwc] at h2 <;> subst h2
  · exact c0
  · exact c1
  · exact c2
def mkI (k i : Int) : Int := 1000003 * (k + 7) + i
/-- The mark of a place among bookings. -/
def mkB (k : Int) (i : Nat) : Bw := ⟨0, 0, mkI k i⟩
theorem mk64_any (k i : Int) (w : World) (hk0 : 0 ≤ k) (hk : k ≤ 1000) (hi0 : 0 ≤ i) (hi : i ≤ 100000000) : Calls Tryz.prog 64 #[.int .i64 k, .int .i64 i] w fun e w' => e = .returned (.int .i64 (mkI k i)) ∧ w' = w := by
  have W1 : IntKind.i64.wrap (k + 7) = k + 7 := by rw [IntKind.wrap_i64]; omega
  have W2 : IntKind.i64.wrap (1000003 * (k + 7)) = 1000003 * (k + 7) := by rw [IntKind.wrap_i64]; omega
  have W3 : IntKind.i64.wrap (1000003 * (k + 7) + i) = mkI k i := by rw [IntKind.wrap_i64]; unfold mkI; omega
  clear hk0 hk hi0 hi
  go_enter Tryz.func64, Tryz.ntmps64
  go_wp2
  go_ret
  exact ⟨rfl, rfl⟩
theorem results_cell1 {fn : Func} {p : Tmp} {ty : TypeId} (h : fn.results = #[.cell p ty]) (tmps : Array Value) (P : Program) (w : World) :
    (results fn tmps).run P w = ((asAddr (tmps.getD p undef)).run P w).andThen fun a w₁ => (loadVar ty a).run P w₁ := by
  simp only [results, h]
  simp [Sem.run_bind, Result.andThen]
theorem mk38_any (k : Int) (j : Nat) (i : Int) (hij : i = (j : Int)) (w : World) (hk0 : 0 ≤ k) (hk : k ≤ 1000) (hi : j ≤ 100000000) : Calls Tryz.prog 38 #[.int .i64 k, .int .i64 i] w fun e w' => e = .returned (.agg #[.int .u32 0, .int .i64 0, .int .i64 (mkI k j)]) ∧ w.grownBy w' none := by
  subst hij
  have q := mk64_any k (j : Int) (w.alloc (.cells #[.int .u32 0, .int .i64 0, .int .i64 0] 78)) hk0 hk (by omega) (by omega)
  have HG := hide (grown_alloc w (.cells #[.int .u32 0, .int .i64 0, .int .i64 (mkI k j)] 78))
  have b := heap_alloc_new w (.cells [Value.int .u32 0, .int .i64 0, .int .i64 (mkI k j)].toArray 78)
  have e0 := cell_row b 0
  have e1 := cell_row b 1
  have e2 := cell_row b 2
  clear hk0 hk hi b
  generalize mkI k j = M at *
  go_enter Tryz.func38, Tryz.ntmps38
  go_wp2_with fail
  refine q.mono ?_
  clear q
  rintro e wx ⟨rfl, hw⟩
  obtain rfl := hw.symm
  clear hw
  go_wp2
  generalize w.alloc (.cells #[.int .u32 0, .int .i64 0, .int .i64 M] 78) = w9 at *
  refine bodyPost_ret (v := .agg #[.int .u32 0, .int .i64 0, .int .i64 M]) ?_ rfl ?_
  · rw [results_cell1 rfl]; go_simp
  exact ⟨rfl, HG.out⟩
theorem slice_toB (ao : Option Addr) (len cap n : Nat) (h : n ≤ cap) (w : World) : (Instr.slice 25 (.slice ao len cap) none (some (.int .i64 (n : Int))) none).run Tryz.prog w = .ok (.slice ao n cap) w := by
  simp [Instr.slice, run_underlying Tryz.underlying25, Instr.sliceBounds, Instr.sliceBound, asIntOf, h]
  intro _; cases ao <;> simp [Addr.add]
def mks (k : Int) (j : Nat) : List Bw := (List.range j).map fun i => mkB k i
theorem mks_length (k : Int) (j : Nat) : (mks k j).length = j := by simp [mks]
theorem mks_succ (k : Int) (j : Nat) : mks k (j + 1) = mks k j ++ [mkB k j] := by simp [mks, List.range_succ]
theorem mks_get (k : Int) (j i : Nat) (h : i < j) : (mks k j)[i]? = some (mkB k i) := by simp [mks, h]
theorem make_capB (n : Nat) (h : n ≤ 65536) (w : World) : (Instr.makeSlice 25 (.int .i64 0) (.int .i64 ((n : Int) + 12))).run Tryz.prog w = .ok (.slice (some ⟨w.heap.size, 0, none⟩) 0 (n + 12)) (w.alloc (.cells (madeCells #[.int .u32 0, .int .i64 0, .int .i64 0] ((n + 12) * 3)) 78)) := by
  obtain ⟨i0, hi, hz0, hz1, hz2⟩ := info_parts Tryz.info78
  rw [run_make (P := Tryz.prog) (w := w) 25 78 i0 _ Tryz.underlying25 hi hz0 .i64 .i64 0 ((n : Int) + 12) (by omega) (by omega) (by rw [hz2]; omega) (by omega), hz1]
  have e : ((n : Int) + 12).toNat = n + 12 := by omega
  rw [e]
  rfl
/-- Bookings that were lent: they, and twelve marks behind their end. -/
structure LentB (w : World) (B g cap : Nat) (rs : List Bw) : Prop where
  own : w.ownsRow B 78 3 (.slice (some ⟨g, 0, none⟩) (rs.length + 12) cap) (rs.length + 12) (bwcs (rs ++ mks 1 12))
set_option maxRecDepth 20000 in
set_option maxHeartbeats 4000000 in
theorem lentB_any (ao : Option Addr) (n cap : Nat) (rs : List Bw) (w : World) (hn : rs.length = n) (hat : BwsAt w ao rs) (hnil : ao = none → n = 0 ∧ cap = 0) (hb : n ≤ 10000) :
    Calls Tryz.prog 10 #[.slice ao n cap] w fun e w' => ∃ g c, e = .returned (.slice (some ⟨g, 0, none⟩) n c) ∧ LentB w' w.heap.size g c rs ∧ w.grownBy w' none := by
  have Hn := hide hn
  have hmk := make_capB n (by omega)
  have W1 : IntKind.i64.wrap ((n : Int) + 12) = (n : Int) + 12 := by rw [IntKind.wrap_i64]; omega
  obtain ⟨i0, hi0, hz0, hz1, hz2⟩ := info_parts Tryz.info78
  have HI0 := hide (And.intro hi0 (And.intro hz0 (And.intro hz1 hz2)))
  have g1 := grown_alloc w (.cells (madeCells #[.int .u32 0, .int .i64 0, .int .i64 0] ((n + 12) * 3)) 78)
  have hr0 : (w.alloc (.cells (madeCells #[.int .u32 0, .int .i64 0, .int .i64 0] ((n + 12) * 3)) 78)).ownsRow w.heap.size 78 3 (.slice (some ⟨w.heap.size, 0, none⟩) 0 (n + 12)) 0 [] := ⟨rfl, Or.inr ⟨w.heap.size, n + 12, _, rfl, Nat.le_refl _, heap_alloc_new w _, Nat.zero_le _, by unfold maxLen; omega, by simp [madeCells], by simp⟩⟩
  have H0 := hide (And.intro g1 (And.intro hr0 (hat.grown g1)))
  have HB := hide hb
  clear hn hi0 hz0 hz1 hz2 g1 hr0 hat
  go_enter Tryz.func10, Tryz.ntmps10
  cases ao with
  | none =>
    obtain ⟨rfl, rfl⟩ := hnil rfl
    have hrs : rs = [] := List.eq_nil_of_length_eq_zero Hn.out
    have HO : Hid ((w.alloc (.cells (madeCells #[.int .u32 0, .int .i64 0, .int .i64 0] 36) 78)).ownsRow w.heap.size 78 3 (.slice (some ⟨w.heap.size, 0, none⟩) 0 12) 0 (bwcs rs)) := by rw [hrs]; exact H0.out.2.1
    have G1 := hide H0.out.1
    have hmk0 : ∀ w, (Instr.makeSlice 25 (.int .i64 0) (.int .i64 12)).run Tryz.prog w = .ok (.slice (some ⟨w.heap.size, 0, none⟩) 0 12) (w.alloc (.cells (madeCells #[.int .u32 0, .int .i64 0, .int .i64 0] 36) 78)) := make_capB 0 (by decide)
    clear H0 hnil hrs hmk
    go_wp2
    generalize w.alloc (.cells (madeCells #[.int .u32 0, .int .i64 0, .int .i64 0] 36) 78) = w1 at *
    go_loopg [3, 4] 12 (fun k v i wr => ∃ j : Nat, k + j = 12 ∧ i = .int .i64 j ∧ wr.ownsRow w.heap.size 78 3 v j (bwcs (rs ++ mks 1 j)) ∧ w.grownBy wr none)
    case atStart => exact ⟨0, rfl, rfl, by simpa [mks] using HO.out, G1.out⟩
    case round =>
      obtain ⟨j, hkj, rfl, hown, hg⟩ := hrel
      by_cases hk : 0 < gk
      · have HO2 := hide (And.intro hown hg)
        have HGK := hide (And.intro hk hkj)
        obtain ⟨vo, vcap, rfl, -⟩ := Ix.own_form hown
        have qm := mk38_any 1 j (j : Int) rfl wr (by decide) (by decide) (by omega)
        have hj12 : (j : Int) < 12 := by omega
        clear hown hg hk hkj
        go_wp2_with fail
        refine qm.mono ?_
        clear qm
        rintro e w2 ⟨rfl, hg2⟩
        have ga := grown_alloc w2 (.cells #[.int .u32 0, .int .i64 0, .int .i64 (mkI 1 (j : Int))] 78)
        have HO3 := hide (And.intro (own_keep (own_keep HO2.out.1 hg2) ga) (grown_trans (grown_trans HO2.out.2 hg2) ga))
        have HCl : Hid (∀ (x : Nat) (u : Value), (bwcs [mkB 1 j])[x]? = some u → (w2.alloc (.cells #[.int .u32 0, .int .i64 0, .int .i64 (mkI 1 (j : Int))] 78)).cell? (Addr.add ⟨w2.heap.size, 0, none⟩ x) = some u) := fun x u hx => by
          rw [Addr.add_lit, Nat.zero_add, cell_row (heap_alloc_new w2 (.cells [Value.int .u32 0, .int .i64 0, .int .i64 (mkI 1 (j : Int))].toArray 78))]
          exact hx
        clear hg2 ga HO2
        go_wp2_with (at_builtin; refine wpList_append_own _ rfl (.tmp 16) (.tmp 19) 25 rfl w.heap.size 78 i0 (.agg #[.int .u32 0, .int .i64 0, .int .i64 0]) 3 24 Tryz.underlying25 HI0.out.1 HI0.out.2.1 HI0.out.2.2.1 HI0.out.2.2.2 rfl (by decide) (.slice vo j vcap) j (bwcs (rs ++ mks 1 j)) rfl HO3.out.1 ⟨w2.heap.size, 0, none⟩ 1 1 (bwcs [mkB 1 j]) rfl rfl HCl.out (bwcs_one _) (by unfold maxLen; have := HB.out; omega) (by have := HB.out; omega) HO3.out.2.size ?_)
        intro v4 w4 ho4 hg4 hv4
        clear hv4
        have HZ : Hid (w4.ownsRow w.heap.size 78 3 v4 (j + 1) (bwcs (rs ++ mks 1 (j + 1))) ∧ w.grownBy w4 none) := ⟨by rw [mks_succ, ← List.append_assoc, bwcs_append (rs ++ mks 1 j)]; exact ho4, grown_then HO3.out.2 hg4 (fun k e => Or.inl (Ix.own_block HO3.out.1 e).1)⟩
        clear ho4 hg4 HO3 HCl
        go_wp2
        go_roundg (gk - 1)
        case measure => have := HGK.out; omega
        case rel => exact ⟨j + 1, by have := HGK.out; omega, by have := HGK.out; go_num, HZ.out.1, HZ.out.2⟩
      · obtain rfl : j = 12 := by omega
        obtain ⟨g, c, cur, rfl, -⟩ := Ix.own_row hown (by omega)
        have hcap := (Ix.own_form hown)
        have hle : 12 ≤ c := by obtain ⟨vo, cc, e, h⟩ := hcap; cases e; exact h
        have hst := slice_toB (some ⟨g, 0, none⟩) 12 c 0 (by omega)
        have HZ : Hid (LentB wr w.heap.size g c rs ∧ w.grownBy wr none) := ⟨⟨by rw [Hn.out, Nat.zero_add]; exact hown⟩, hg⟩
        clear hown hg hcap hle hkj hk
        have hst : ∀ w, (Instr.slice 25 (.slice (some ⟨g, 0, none⟩) 12 c) none (some (.int .i64 0)) none).run Tryz.prog w = .ok (.slice (some ⟨g, 0, none⟩) 0 c) w := hst
        go_wp2
        go_ret
        exact ⟨g, c, rfl, HZ.out.1, HZ.out.2⟩
  | some a =>
    have hcells : ∀ j u, (bwcs rs)[j]? = some u → (w.alloc (.cells (madeCells #[.int .u32 0, .int .i64 0, .int .i64 0] ((n + 12) * 3)) 78)).cell? (Addr.add a j) = some u := by
      by_cases h0 : rs = []
      · subst h0; intro j u hj; simp [bwcs] at hj
      · obtain ⟨g, off, e⟩ := H0.out.2.2.form h0
        cases e
        exact H0.out.2.2.cells
    have HC := hide hcells
    clear hcells hnil
    go_wp2_with (at_builtin; refine wpList_append_own _ rfl (.tmp 9) (.tmp 10) 25 rfl w.heap.size 78 i0 (.agg #[.int .u32 0, .int .i64 0, .int .i64 0]) 3 24 Tryz.underlying25 HI0.out.1 HI0.out.2.1 HI0.out.2.2.1 HI0.out.2.2.2 rfl (by decide) (.slice (some ⟨w.heap.size, 0, none⟩) 0 (n + 12)) 0 [] rfl H0.out.2.1 a n cap (bwcs rs) rfl (by rw [bwcs_length, Hn.out]) HC.out (bwcs_one _) (by unfold maxLen; omega) (by omega) H0.out.1.size ?_)
    intro v1 w1 ho hg hv
    clear hv
    have HO : Hid (w1.ownsRow w.heap.size 78 3 v1 n (bwcs rs)) := by unfold Hid; simpa using ho
    have G1 : Hid (w.grownBy w1 none) := grown_then H0.out.1 hg (fun k e => by cases e; exact Or.inl (Nat.le_refl _))
    obtain ⟨vo1, vc1, rfl, -⟩ := Ix.own_form HO.out
    clear ho hg H0 HC hmk
    go_wp2
    go_loopg [3, 4] 12 (fun k v i wr => ∃ j : Nat, k + j = 12 ∧ i = .int .i64 j ∧ wr.ownsRow w.heap.size 78 3 v (n + j) (bwcs (rs ++ mks 1 j)) ∧ w.grownBy wr none)
    case atStart => exact ⟨0, rfl, rfl, by simpa [mks] using HO.out, G1.out⟩
    case round =>
      obtain ⟨j, hkj, rfl, hown, hg⟩ := hrel
      by_cases hk : 0 < gk
      · have HO2 := hide (And.intro hown hg)
        have HGK := hide (And.intro hk hkj)
        obtain ⟨vo, vcap, rfl, -⟩ := Ix.own_form hown
        have qm := mk38_any 1 j (j : Int) rfl wr (by decide) (by decide) (by omega)
        have hj12 : (j : Int) < 12 := by omega
        clear hown hg hk hkj
        go_wp2_with fail
        refine qm.mono ?_
        clear qm
        rintro e w2 ⟨rfl, hg2⟩
        have ga := grown_alloc w2 (.cells #[.int .u32 0, .int .i64 0, .int .i64 (mkI 1 (j : Int))] 78)
        have HO3 := hide (And.intro (own_keep (own_keep HO2.out.1 hg2) ga) (grown_trans (grown_trans HO2.out.2 hg2) ga))
        have HCl : Hid (∀ (x : Nat) (u : Value), (bwcs [mkB 1 j])[x]? = some u → (w2.alloc (.cells #[.int .u32 0, .int .i64 0, .int .i64 (mkI 1 (j : Int))] 78)).cell? (Addr.add ⟨w2.heap.size, 0, none⟩ x) = some u) := fun x u hx => by
          rw [Addr.add_lit, Nat.zero_add, cell_row (heap_alloc_new w2 (.cells [Value.int .u32 0, .int .i64 0, .int .i64 (mkI 1 (j : Int))].toArray 78))]
          exact hx
        clear hg2 ga HO2
        go_wp2_with (at_builtin; refine wpList_append_own _ rfl (.tmp 16) (.tmp 19) 25 rfl w.heap.size 78 i0 (.agg #[.int .u32 0, .int .i64 0, .int .i64 0]) 3 24 Tryz.underlying25 HI0.out.1 HI0.out.2.1 HI0.out.2.2.1 HI0.out.2.2.2 rfl (by decide) (.slice vo (n + j) vcap) (n + j) (bwcs (rs ++ mks 1 j)) rfl HO3.out.1 ⟨w2.heap.size, 0, none⟩ 1 1 (bwcs [mkB 1 j]) rfl rfl HCl.out (bwcs_one _) (by unfold maxLen; have := HB.out; omega) (by have := HB.out; omega) HO3.out.2.size ?_)
        intro v4 w4 ho4 hg4 hv4
        clear hv4
        have HZ : Hid (w4.ownsRow w.heap.size 78 3 v4 (n + (j + 1)) (bwcs (rs ++ mks 1 (j + 1))) ∧ w.grownBy w4 none) := ⟨by rw [mks_succ, ← List.append_assoc, bwcs_append (rs ++ mks 1 j)]; exact ho4, grown_then HO3.out.2 hg4 (fun k e => Or.inl (Ix.own_block HO3.out.1 e).1)⟩
        clear ho4 hg4 HO3 HCl
        go_wp2
        go_roundg (gk - 1)
        case measure => have := HGK.out; omega
        case rel => exact ⟨j + 1, by have := HGK.out; omega, by have := HGK.out; go_num, HZ.out.1, HZ.out.2⟩
      · obtain rfl : j = 12 := by omega
        obtain ⟨g, c, cur, rfl, -⟩ := Ix.own_row hown (by omega)
        have hcap := (Ix.own_form hown)
        have hle : n + 12 ≤ c := by obtain ⟨vo, cc, e, h⟩ := hcap; cases e; exact h
        have hst := slice_toB (some ⟨g, 0, none⟩) (n + 12) c n (by omega)
        have HZ : Hid (LentB wr w.heap.size g c rs ∧ w.grownBy wr none) := ⟨⟨by rw [Hn.out]; exact hown⟩, hg⟩
        clear hown hg hcap hle hkj hk
        go_wp2
        go_ret
        exact ⟨g, c, rfl, HZ.out.1, HZ.out.2⟩
end Go.Proofs.YtcbiloomnkbalaaGreatDoor
/- The document's book: Get, At, Due. -/
namespace Go.Proofs.YtcbiloomnkbalaaGreatDoor
open Go.RowKit
attribute [local go_sem ↓] Go.wp_at_zero Go.wp_at_succ
attribute [local go_sem] Oper.semAt_some
section
variable {w : World} {lo d : Nat} {v : Value} {S : Sb}
set_option maxRecDepth 20000 in
set_option maxHeartbeats 8000000 in
theorem dget_any (h : Db w lo d v S) (hA : AscB S.L) (hL : S.L.length ≤ 65536) (k : Nat) : Calls Tryz.prog 45 #[.pointer (some ⟨d, 0, none⟩), .int .u32 (k : Int)] w fun e w' => e = .returned (.tuple #[bgV ((fnd S.L k).getD ⟨0, 0, 0⟩), .int .i64 (if (fnd S.L k).isSome then 0 else 171)]) ∧ w.grownBy w' none := by
  have HB := hide (heap_alloc_new w (.cells bgz.toArray 78))
  have hD := h.then (grown_alloc w (.cells bgz.toArray 78))
  have c0 := hD.cell (j := 0) rfl
  have c4 := hD.cell (j := 4) rfl
  obtain ⟨ao, cap, rfl, hb⟩ := hD.bga.ex
  have HF := hide (dfind_any hD hL (k : Int))
  have HH := hide hb
  have HA := hide hA
  obtain ⟨d0, d1, d2, d3⟩ := box3 HB.out
  obtain ⟨X, hX⟩ : ∃ X, X = (fnd S.L k).getD ⟨0, 0, 0⟩ := ⟨_, rfl⟩
  obtain ⟨E, hE⟩ : ∃ E : Int, E = if (fnd S.L k).isSome then 0 else 171 := ⟨_, rfl⟩
  rw [← hX, ← hE]
  have HXE := hide (And.intro hX hE)
  clear h hD hA hb hL hX hE
  unfold bgz at *
  go_enter Tryz.func45, Tryz.ntmps45
  go_wp2_with fail
  refine HF.out.mono ?_
  rintro e w1 ⟨⟨j, x, hj, hx, rfl⟩ | ⟨hn, rfl⟩, hw⟩
  · obtain rfl := hw.symm
    have hx' : x.i = k := by omega
    have hf : fnd S.L k = some x := (fnd_some HA.out).2 ⟨List.mem_of_getElem? hj, hx'⟩
    have hjl := (List.getElem?_eq_some_iff.1 hj).1
    obtain ⟨g, rfl, e0, e1, e2⟩ := HH.out j hjl
    have hr : rd S.L j = x := by unfold rd; rw [hj]; rfl
    rw [hr] at e0 e1 e2
    have HR : Hid (X = x ∧ E = 0) := by rw [hf] at HXE; exact HXE.out
    have h1 : (0 : Int) ≤ (j : Int) := by omega
    have h2 : (j : Int) < (S.L.length : Int) := by omega
    clear hf hj hx hx' hr hw HF HH
    go_wp2
    rw [HR.out.1, HR.out.2]
    obtain ⟨r1, r2⟩ := row3 _ HB.out (.int .u32 (x.i : Int)) (.int .i64 (x.s : Int)) (.int .i64 x.u)
    first
      | exact bodyPost_ret (results_bg rfl _ _ w.heap.size x (.int .i64 0) rfl r1 rfl) rfl ⟨rfl, gn_set (gn_set (gn_set (grown_alloc _ _) (Nat.le_refl _)) (Nat.le_refl _)) (Nat.le_refl _)⟩
      | exact bodyPost_ret (results_bg rfl _ _ w.heap.size x (.int .i64 0) rfl (heap_alloc_new w _) rfl) rfl ⟨rfl, grown_alloc _ _⟩
  · obtain rfl := hw.symm
    have hf : fnd S.L k = none := fnd_none.2 (fun x hx e => hn x hx (by omega))
    have HR : Hid (X = ⟨0, 0, 0⟩ ∧ E = 171) := by rw [hf] at HXE; exact HXE.out
    clear hf hn hw HF HH
    go_wp2
    rw [HR.out.1, HR.out.2]
    obtain ⟨r1, r2⟩ := row3 _ HB.out (.int .u32 0) (.int .i64 0) (.int .i64 0)
    first
      | exact bodyPost_ret (results_bg rfl _ _ w.heap.size ⟨0, 0, 0⟩ (.int .i64 171) rfl r1 rfl) rfl ⟨rfl, gn_set (gn_set (gn_set (grown_alloc _ _) (Nat.le_refl _)) (Nat.le_refl _)) (Nat.le_refl _)⟩
      | exact bodyPost_ret (results_bg rfl _ _ w.heap.size ⟨0, 0, 0⟩ (.int .i64 171) rfl HB.out rfl) rfl ⟨rfl, grown_alloc _ _⟩
set_option maxRecDepth 20000 in
set_option maxHeartbeats 8000000 in
theorem dat_any (h : Db w lo d v S) (hO : OneS S.L) (hS : ∀ x ∈ S.L, x.s < S.a) (hL : S.L.length ≤ 65536) (s : Int) : Calls Tryz.prog 46 #[.pointer (some ⟨d, 0, none⟩), .int .i64 s] w fun e w' => e = .returned (.tuple #[bgV (atX S s), .int .i64 (atE S s)]) ∧ w.grownBy w' none := by
  have HB := hide (heap_alloc_new w (.cells bgz.toArray 78))
  have hD := h.then (grown_alloc w (.cells bgz.toArray 78))
  have c0 := hD.cell (j := 0) rfl
  have c1 := hD.cell (j := 1) rfl
  have c4 := hD.cell (j := 4) rfl
  obtain ⟨ao, cap, rfl, hb⟩ := hD.bga.ex
  have HF := hide (dtaken_any hD hL s)
  have HH := hide hb
  have HA := hide (And.intro hO hS)
  obtain ⟨d0, d1, d2, d3⟩ := box3 HB.out
  obtain ⟨X, hX⟩ : ∃ X, X = atX S s := ⟨_, rfl⟩
  obtain ⟨E, hE⟩ : ∃ E : Int, E = atE S s := ⟨_, rfl⟩
  rw [← hX, ← hE]
  have HXE := hide (And.intro hX hE)
  clear h hD hO hS hb hL hX hE
  unfold bgz at *
  by_cases hs : 0 ≤ s ∧ s < (S.a : Int)
  case neg =>
    have HR : Hid (X = ⟨0, 0, 0⟩ ∧ E = 140) := by rw [HXE.out.1, HXE.out.2]; unfold atX atE; rw [if_neg hs, if_neg hs]; exact ⟨rfl, rfl⟩
    rw [HR.out.1, HR.out.2]
    by_cases h0 : s < 0
    · have hg : decide (s < 0) = true := decide_eq_true h0
      clear hs HF HH
      go_enter Tryz.func46, Tryz.ntmps46
      go_wp2
      obtain ⟨r1, r2⟩ := row3 _ HB.out (.int .u32 0) (.int .i64 0) (.int .i64 0)
      first
        | exact bodyPost_ret (results_bg rfl _ _ w.heap.size ⟨0, 0, 0⟩ (.int .i64 140) rfl r1 rfl) rfl ⟨rfl, gn_set (gn_set (gn_set (grown_alloc _ _) (Nat.le_refl _)) (Nat.le_refl _)) (Nat.le_refl _)⟩
        | exact bodyPost_ret (results_bg rfl _ _ w.heap.size ⟨0, 0, 0⟩ (.int .i64 140) rfl HB.out rfl) rfl ⟨rfl, grown_alloc _ _⟩
    · have hg : decide (s < 0) = false := decide_eq_false h0
      have h1 : (S.a : Int) ≤ s := by omega
      clear hs HF HH
      go_enter Tryz.func46, Tryz.ntmps46
      go_wp2
      obtain ⟨r1, r2⟩ := row3 _ HB.out (.int .u32 0) (.int .i64 0) (.int .i64 0)
      first
        | exact bodyPost_ret (results_bg rfl _ _ w.heap.size ⟨0, 0, 0⟩ (.int .i64 140) rfl r1 rfl) rfl ⟨rfl, gn_set (gn_set (gn_set (grown_alloc _ _) (Nat.le_refl _)) (Nat.le_refl _)) (Nat.le_refl _)⟩
        | exact bodyPost_ret (results_bg rfl _ _ w.heap.size ⟨0, 0, 0⟩ (.int .i64 140) rfl HB.out rfl) rfl ⟨rfl, grown_alloc _ _⟩
  have HS := hide hs
  have h0 : ¬ s < 0 := by omega
  have hg : decide (s < 0) = false := decide_eq_false h0
  have h1 : s < (S.a : Int) := hs.2
  clear hs
  go_enter Tryz.func46, Tryz.ntmps46
  go_wp2_with fail
  refine HF.out.mono ?_
  rintro e w1 ⟨⟨j, x, hj, hx, rfl⟩ | ⟨hn, rfl⟩, hw⟩
  · obtain rfl := hw.symm
    have hx' : x.s = s.toNat := by omega
    have hf : sat S.L s.toNat = some x := (sat_some HA.out.1).2 ⟨List.mem_of_getElem? hj, hx'⟩
    have hjl := (List.getElem?_eq_some_iff.1 hj).1
    obtain ⟨g, rfl, e0, e1, e2⟩ := HH.out j hjl
    have hr : rd S.L j = x := by unfold rd; rw [hj]; rfl
    rw [hr] at e0 e1 e2
    have HR : Hid (X = x ∧ E = 0) := by rw [HXE.out.1, HXE.out.2]; unfold atX atE; rw [if_pos HS.out, if_pos HS.out, hf]; exact ⟨rfl, rfl⟩
    have h1 : (0 : Int) ≤ (j : Int) := by omega
    have h2 : (j : Int) < (S.L.length : Int) := by omega
    clear hf hj hx hx' hr hw HF HH
    go_wp2
    rw [HR.out.1, HR.out.2]
    obtain ⟨r1, r2⟩ := row3 _ HB.out (.int .u32 (x.i : Int)) (.int .i64 (x.s : Int)) (.int .i64 x.u)
    first
      | exact bodyPost_ret (results_bg rfl _ _ w.heap.size x (.int .i64 0) rfl r1 rfl) rfl ⟨rfl, gn_set (gn_set (gn_set (grown_alloc _ _) (Nat.le_refl _)) (Nat.le_refl _)) (Nat.le_refl _)⟩
      | exact bodyPost_ret (results_bg rfl _ _ w.heap.size x (.int .i64 0) rfl (heap_alloc_new w _) rfl) rfl ⟨rfl, grown_alloc _ _⟩
  · obtain rfl := hw.symm
    have hf : sat S.L s.toNat = none := sat_none.2 (fun x hx e => hn x hx (by have := HS.out.1; omega))
    have HR : Hid (X = ⟨0, 0, 0⟩ ∧ E = 171) := by rw [HXE.out.1, HXE.out.2]; unfold atX atE; rw [if_pos HS.out, if_pos HS.out, hf]; exact ⟨rfl, rfl⟩
    clear hf hn hw HF HH
    go_wp2
    rw [HR.out.1, HR.out.2]
    obtain ⟨r1, r2⟩ := row3 _ HB.out (.int .u32 0) (.int .i64 0) (.int .i64 0)
    first
      | exact bodyPost_ret (results_bg rfl _ _ w.heap.size ⟨0, 0, 0⟩ (.int .i64 171) rfl r1 rfl) rfl ⟨rfl, gn_set (gn_set (gn_set (grown_alloc _ _) (Nat.le_refl _)) (Nat.le_refl _)) (Nat.le_refl _)⟩
      | exact bodyPost_ret (results_bg rfl _ _ w.heap.size ⟨0, 0, 0⟩ (.int .i64 171) rfl HB.out rfl) rfl ⟨rfl, grown_alloc _ _⟩
/-- The least Until that is above 0; 0 if there is none. -/
def duS (a : Int) (x : Bg) : Int := if 0 < x.u ∧ (a = 0 ∨ x.u < a) then x.u else a
def du (L : List Bg) : Int := L.foldl duS 0
theorem du_take {L : List Bg} {j : Nat} (h : j < L.length) : du (L.take (j + 1)) = duS (du (L.take j)) (rd L j) := by
  unfold du
  rw [← take_rd h, List.foldl_append]
  rfl
theorem du_fold : ∀ (L : List Bg) (a : Int), 0 ≤ a → (∀ y ∈ L, 0 ≤ y.u) → (L.foldl duS a = 0 ↔ a = 0 ∧ ∀ y ∈ L, y.u = 0) ∧ 0 ≤ L.foldl duS a ∧ (a ≠ 0 → L.foldl duS a ≤ a) ∧ (∀ y ∈ L, y.u ≠ 0 → L.foldl duS a ≤ y.u) ∧ (L.foldl duS a = a ∨ ∃ y ∈ L, y.u = L.foldl duS a) := by
  intro L
  induction L with
  | nil => intro a ha _; exact ⟨by simp, ha, fun _ => Int.le_refl _, (fun y hy => by cases hy), .inl rfl⟩
  | cons x r ih =>
    intro a ha hu
    have hx := hu x (by simp)
    have h0 : 0 ≤ duS a x := by unfold duS; split <;> omega
    obtain ⟨i1, i2, i3, i4, i5⟩ := ih (duS a x) h0 (fun y hy => hu y (by simp [hy]))
    rw [List.foldl_cons]
    have hz : duS a x = 0 ↔ a = 0 ∧ x.u = 0 := by unfold duS; split <;> omega
    have hl : a ≠ 0 → duS a x ≤ a := by unfold duS; split <;> omega
    have hl2 : x.u ≠ 0 → duS a x ≤ x.u := by unfold duS; split <;> omega
    have he : duS a x = a ∨ duS a x = x.u := by unfold duS; split <;> simp
    refine ⟨?_, i2, fun e => ?_, fun y hy e => ?_, ?_⟩
    · rw [i1, hz]
      constructor
      · rintro ⟨⟨e1, e2⟩, e3⟩
        exact ⟨e1, fun y hy => by rcases List.mem_cons.1 hy with rfl | hy; exact e2; exact e3 y hy⟩
      · rintro ⟨e1, e2⟩
        exact ⟨⟨e1, e2 x (by simp)⟩, fun y hy => e2 y (by simp [hy])⟩
    · by_cases e2 : duS a x = 0
      · exact absurd (hz.1 e2).1 e
      · exact Int.le_trans (i3 e2) (hl e)
    · rcases List.mem_cons.1 hy with rfl | hy
      · by_cases e2 : duS a y = 0
        · exact absurd (hz.1 e2).2 e
        · exact Int.le_trans (i3 e2) (hl2 e)
      · exact i4 y hy e
    · rcases i5 with e | ⟨y, hy, e⟩
      · rcases he with e2 | e2
        · exact .inl (e.trans e2)
        · exact .inr ⟨x, by simp, by rw [e, e2]⟩
      · exact .inr ⟨y, by simp [hy], e⟩
theorem du_fst {S : Sb} {x : Bg} {b : Bool} (h : Fst S x b) (hu : ∀ y ∈ S.L, 0 ≤ y.u) : x.u = du S.L ∧ b = decide (0 < du S.L) := by
  obtain ⟨i1, i2, -, i4, i5⟩ := du_fold S.L 0 (Int.le_refl _) hu
  change (du S.L = 0 ↔ _) at i1
  change 0 ≤ du S.L at i2
  change ∀ y ∈ S.L, y.u ≠ 0 → du S.L ≤ y.u at i4
  change du S.L = 0 ∨ ∃ y ∈ S.L, y.u = du S.L at i5
  rcases h with ⟨rfl, rfl, h3⟩ | ⟨rfl, h2, h3, h4⟩
  · have e := i1.2 ⟨rfl, h3⟩
    rw [e]
    exact ⟨rfl, rfl⟩
  · have hne : du S.L ≠ 0 := fun e => h3 ((i1.1 e).2 x h2)
    have hle := i4 x h2 h3
    rcases i5 with e | ⟨y, hy, e⟩
    · exact absurd e hne
    · have := h4 y hy (by omega)
      have e3 : x.u = du S.L := by omega
      refine ⟨e3, ?_⟩
      rw [decide_eq_true (by omega)]
set_option maxRecDepth 20000 in
set_option maxHeartbeats 8000000 in
theorem ddue_any (h : Db w lo d v S) (hL : S.L.length ≤ 65536) : Calls Tryz.prog 51 #[.pointer (some ⟨d, 0, none⟩)] w fun e w' => e = .returned (.tuple #[.int .i64 (du S.L), .bool (decide (0 < du S.L))]) ∧ w' = w := by
  have c4 := h.cell (j := 4) rfl
  obtain ⟨ao, cap, rfl, hb⟩ := h.bga.ex
  have HH := hide hb
  obtain ⟨res, hres⟩ : ∃ res, res = du S.L := ⟨_, rfl⟩
  rw [← hres]
  have HR := hide hres
  generalize hn : S.L.length = n at *
  have HN := hide hn
  clear h hb hres hn
  go_enter Tryz.func51, Tryz.ntmps51
  go_wp2
  go_loopg [4, 5] n (fun k a i wr => ∃ (j : Nat) (q : Int), k + j = n ∧ i = .int .i64 (j : Int) ∧ a = .int .i64 q ∧ Hid (q = du (S.L.take j)) ∧ wr = w)
  case atStart => exact ⟨0, 0, by omega, rfl, rfl, rfl, rfl⟩
  case round =>
    obtain ⟨j, q, hkj, rfl, rfl, HQ, rfl⟩ := hrel
    by_cases hk : 0 < gk
    · have h1 : (0 : Int) ≤ (j : Int) := by omega
      have h2 : (j : Int) < (n : Int) := by omega
      have hj : j < S.L.length := by rw [HN.out]; omega
      obtain ⟨g, rfl, e0, e1, e2⟩ := HH.out j (by omega)
      have HT := hide (du_take hj)
      rw [← HQ.out] at HT
      generalize rd S.L j = x at *
      obtain ⟨xi, xs, xu⟩ := x
      simp only at e0 e1 e2
      have HD : Hid (∀ y, duS q ⟨xi, xs, xu⟩ = y → y = du (S.L.take (j + 1))) := fun y e => by rw [← e]; exact HT.out.symm
      have hjb : j < 65536 := by omega
      clear hj HH HN HR HT e0 e1
      by_cases hu : 0 < xu
      · by_cases hq : q = 0
        · have hqe : (q == 0) = true := by simpa using hq
          have HE := hide (HD.out xu (by unfold duS; exact if_pos ⟨hu, .inl hq⟩))
          have hd := decide_eq_true hq
          clear hq HD HQ
          go_wp2
          go_roundg (gk - 1)
          case measure => omega
          case rel => exact ⟨j + 1, xu, by omega, by go_num, rfl, HE.out, rfl⟩
        · have hqe : (q == 0) = false := by simpa using hq
          have hqd : decide (q = 0) = false := by simpa using hq
          by_cases hl : xu < q
          · have HE := hide (HD.out xu (by unfold duS; exact if_pos ⟨hu, .inr hl⟩))
            clear hq HD HQ
            go_wp2
            go_roundg (gk - 1)
            case measure => omega
            case rel => exact ⟨j + 1, xu, by omega, by go_num, rfl, HE.out, rfl⟩
          · have HE := hide (HD.out q (if_neg (show ¬ (0 < xu ∧ (q = 0 ∨ xu < q)) by omega)))
            clear hq HD HQ
            go_wp2
            go_roundg (gk - 1)
            case measure => omega
            case rel => exact ⟨j + 1, q, by omega, by go_num, rfl, HE.out, rfl⟩
      · have HE := hide (HD.out q (if_neg (show ¬ (0 < xu ∧ (q = 0 ∨ xu < q)) by omega)))
        clear HD HQ
        go_wp2
        go_roundg (gk - 1)
        case measure => omega
        case rel => exact ⟨j + 1, q, by omega, by go_num, rfl, HE.out, rfl⟩
    · obtain rfl : j = n := by omega
      have hq : q = res := by rw [HQ.out, HR.out, ← HN.out, List.take_length]
      subst hq
      clear HR HQ HH HN
      go_wp2
      go_ret2
      exact ⟨rfl, rfl⟩
end
end Go.Proofs.YtcbiloomnkbalaaGreatDoor
