/- FrameKeeps: what is told is new memory. -/
import Derived.Test.YtoeehajdmdmemabDoorX5
import Derived.Test.YtoeehajdmdmemabDoorX6
namespace Go.Proofs.YtoeehajdmdmemabDoor
open Go.RowKit
open Ap (GrownT)
open Af (Fw pre pre_succ ownT apartFrames_any)
attribute [local go_sem ↓] Go.wp_at_zero Go.wp_at_succ

theorem grownT_after {T : Nat → Prop} {w0 w w' : World} (h : w0.grownBy w none) (hg : GrownT T w w') (hT : ∀ k, T k → w0.heap.size ≤ k) : w0.grownBy w' none :=
  ⟨hg.os.trans h.os, hg.tape.trans h.tape, hg.output.trans h.output, Nat.le_trans h.size hg.size, fun k hk _ => (hg.block k (Nat.lt_of_lt_of_le hk h.size) (fun t => by have := hT k t; omega)).trans (h.block k hk (by simp))⟩
theorem FsAt.keptT {T : Nat → Prop} {w w' : World} {base : Nat} {v : Value} {ys : List El} (h : FsAt w base v ys) (hg : GrownT T w w') (hT : ∀ k, T k → k < base) : FsAt w' base v ys :=
  ⟨ownT h.own hg (fun k e t => by have h1 := (h.own.lt k e).1; have h2 := hT k t; omega), fun y hy => by
    obtain ⟨a1, a2, a3⟩ := h.each y hy
    exact ⟨⟨ownT a1.own hg (fun k e t => by have h1 := (a1.own.lt k e).1; have h2 := hT k t; omega), a1.top, Nat.le_trans a1.size hg.size⟩, a2, a3⟩, h.apart⟩
/-- Bodies that were made one behind the other. -/
structure Bods (w : World) (A Z : Nat) (L : List El) : Prop where
  each : ∀ y ∈ L, y.At w ∧ A ≤ y.lo ∧ y.f.b.length ≤ 32 ∧ y.hi ≤ Z
  apart : L.Pairwise (fun x y => x.hi ≤ y.lo)
theorem getD_map {L : List El} {k : Nat} (hk : k < (L.map El.v).length) : ∃ y, L[k]? = some y ∧ (L.map El.v).getD k undef = y.v := by
  have hk' : k < L.length := by simpa using hk
  exact ⟨L[k], List.getElem?_eq_getElem hk', by simp [List.getD_eq_getElem?_getD, hk']⟩
theorem Bods.body {w : World} {A Z : Nat} {L : List El} (h : Bods w A Z L) : ∀ k, k < (L.map El.v).length → ∃ n xs, w.ownsRow A 5 1 ((L.map El.v).getD k undef) n xs ∧ n ≤ 32 := fun k hk => by
  obtain ⟨y, hy, e⟩ := getD_map hk
  obtain ⟨h1, h2, h3, _⟩ := h.each y (List.mem_of_getElem? hy)
  rw [e]
  exact ⟨_, _, own_base h1.own h2, h3⟩
theorem Bods.far {w : World} {A Z : Nat} {L : List El} (h : Bods w A Z L) : ∀ i k, i < k → k < (L.map El.v).length → ((L.map El.v).getD i undef).ownBlock = none ∨ ((L.map El.v).getD i undef).ownBlock ≠ ((L.map El.v).getD k undef).ownBlock := fun i k hik hk => by
  obtain ⟨x, hx, e1⟩ := getD_map (L := L) (k := i) (by omega)
  obtain ⟨y, hy, e2⟩ := getD_map hk
  rw [e1, e2]
  have hp : x.hi ≤ y.lo := by
    have h1 := List.getElem?_eq_some_iff.1 hx
    have h2 := List.getElem?_eq_some_iff.1 hy
    obtain ⟨l1, rfl⟩ := h1
    obtain ⟨l2, rfl⟩ := h2
    exact List.pairwise_iff_getElem.1 h.apart i k l1 l2 hik
  obtain ⟨a1, _, _⟩ := h.each x (List.mem_of_getElem? hx)
  obtain ⟨b1, _, _⟩ := h.each y (List.mem_of_getElem? hy)
  cases hb : x.v.ownBlock with
  | none => exact Or.inl rfl
  | some q =>
    right
    intro e
    have t1 := a1.top q hb
    have t2 := (b1.own.lt q e.symm).1
    omega
theorem Bods.inT {w : World} {A Z : Nat} {L : List El} (h : Bods w A Z L) : ∀ i, i < (L.map El.v).length → ∀ k, ((L.map El.v).getD i undef).ownBlock = some k → A ≤ k ∧ k < Z := fun i hi k e => by
  obtain ⟨y, hy, e2⟩ := getD_map hi
  rw [e2] at e
  obtain ⟨a1, a2, _, a4⟩ := h.each y (List.mem_of_getElem? hy)
  have t1 := a1.top k e
  have t2 := (a1.own.lt k e).1
  omega
theorem El.At.slice {x : El} {w : World} (h : x.At w) : ∃ bo m k, x.v = .slice bo m k := by
  obtain ⟨bo, k, e⟩ := own_form h.own
  exact ⟨bo, _, k, e⟩
theorem two_fw {w : World} {A M Z : Nat} {v v' : Value} {ys zs : List El} (h1 : FsAt w A v ys) (h2 : FsAt w M v' zs) (hAM : A ≤ M) (hMZ : M ≤ Z) (t1 : ∀ k, v.ownBlock = some k → k < M) (u1 : ∀ y ∈ ys, y.hi ≤ M) (t2 : ∀ k, v'.ownBlock = some k → k < Z) (u2 : ∀ y ∈ zs, y.hi ≤ Z) (l1 : ys.length ≤ 5000) (l2 : zs.length ≤ 5000) :
    Fw w A 2 (fun j => if j = 0 then v else v') (fun j => if j = 0 then ys else zs) (fun k => A ≤ k ∧ k < Z) := by
  have e : pre (fun j => if j = 0 then ys else zs) 2 = (ys ++ zs).map El.v := by simp [pre, List.range_succ]
  have hB : Bods w A Z (ys ++ zs) := by
    refine ⟨fun y hy => ?_, List.pairwise_append.2 ⟨h1.apart, h2.apart, fun x hx y hy => ?_⟩⟩
    · rcases List.mem_append.1 hy with h | h
      · obtain ⟨a1, a2, a3, a4⟩ := h1.each y h
        exact ⟨a1, a2, a4, Nat.le_trans (u1 y h) hMZ⟩
      · obtain ⟨a1, a2, a3, a4⟩ := h2.each y h
        exact ⟨a1, Nat.le_trans hAM a2, a4, u2 y h⟩
    · have b1 := u1 x hx
      have b2 := (h2.each y hy).2.1
      omega
  have hfar : v.ownBlock = none ∨ v.ownBlock ≠ v'.ownBlock := by
    cases hb : v.ownBlock with
    | none => exact Or.inl rfl
    | some k => exact Or.inr (fun e => by have b1 := t1 k hb; have b2 := (h2.own.lt k e.symm).1; omega)
  refine ⟨fun j hj => ?_, fun i k hi hk hik => ?_, fun j hj k hk => ?_, ?_, ?_, ?_, fun j hj y hy => ?_, ?_, fun j hj => ?_⟩
  · rcases (show j = 0 ∨ j = 1 by omega) with rfl | rfl
    · exact h1.own
    · exact own_base h2.own hAM
  · rcases (show i = 0 ∨ i = 1 by omega) with rfl | rfl <;> rcases (show k = 0 ∨ k = 1 by omega) with rfl | rfl
    · exact absurd rfl hik
    · exact hfar
    · exact Af.apart_swap hfar
    · exact absurd rfl hik
  · rcases (show j = 0 ∨ j = 1 by omega) with rfl | rfl
    · have b1 := (h1.own.lt k hk).1; have b2 := t1 k hk; exact ⟨b1, by omega⟩
    · have b1 := (h2.own.lt k hk).1; have b2 := t2 k hk; exact ⟨by omega, b2⟩
  · rw [e]; exact hB.body
  · rw [e]; exact hB.far
  · rw [e]; exact hB.inT
  · rcases (show j = 0 ∨ j = 1 by omega) with rfl | rfl
    · exact (h1.each y hy).1.slice
    · exact (h2.each y hy).1.slice
  · rw [e]; simp; omega
  · rcases (show j = 0 ∨ j = 1 by omega) with rfl | rfl
    · show ys.length ≤ _; omega
    · show zs.length ≤ _; omega
/-- Two frames in one list that is there. -/
theorem one_fw {w : World} {A Z g : Nat} {x y : El} (hx : x.At w) (hy : y.At w) (ax : A ≤ x.lo) (xy : x.hi ≤ y.lo) (yz : y.hi ≤ Z) (xl : x.f.b.length ≤ 32) (yl : y.f.b.length ≤ 32) (hxz : x.hi ≤ Z) (ayl : A ≤ y.lo)
    (ho : w.ownsRow A 34 3 (.slice (some ⟨g, 0, none⟩) 2 2) 2 (fcl [x, y])) (hg : g < Z) :
    Fw w A 1 (fun _ => .slice (some ⟨g, 0, none⟩) 2 2) (fun _ => [x, y]) (fun k => A ≤ k ∧ k < Z) := by
  have e : pre (fun _ => [x, y]) 1 = [x, y].map El.v := by simp [pre, List.range_succ]
  have hB : Bods w A Z [x, y] := by
    refine ⟨fun z hz => ?_, by simpa using xy⟩
    simp at hz
    rcases hz with rfl | rfl
    · exact ⟨hx, ax, xl, hxz⟩
    · exact ⟨hy, ayl, yl, yz⟩
  refine ⟨fun j hj => ho, fun i k hi hk hik => by omega, fun j hj k hk => ?_, ?_, ?_, ?_, fun j hj z hz => ?_, ?_, fun j hj => ?_⟩
  · have b1 := (ho.lt k hk).1
    cases hk
    exact ⟨b1, hg⟩
  · rw [e]; exact hB.body
  · rw [e]; exact hB.far
  · rw [e]; exact hB.inT
  · exact (hB.each z hz).1.slice
  · rw [e]; simp
  · simp

set_option maxRecDepth 100000 in
set_option maxHeartbeats 4000000 in
theorem keeps_any (ao : Option Addr) (n cap : Nat) (xs : List Int) (E S : Int) (w : World) (h : Src w ao n cap xs) (hS0 : 0 ≤ S) (hS1 : S < 18446744073709551616) :
    Calls Tryd.prog 3 #[.slice ao n cap, .int .u64 E, .int .u64 S] w fun e w' => e = .returned (.bool true) ∧ w.grownBy w' none := by
  have H := hide h
  have HA := hide (awake_any w h.tab)
  have hn2 := h.sm
  clear h
  by_cases hbig : 5000 < n
  · have hbig' : (5000 : Int) < (n : Int) := by omega
    go_enter Tryd.func3, Tryd.ntmps3
    go_wp2_with fail
    refine HA.out.mono ?_
    rintro r w1 ⟨rfl, g1⟩
    have G1 := hide g1
    clear g1
    go_wp2
    go_ret
    exact ⟨rfl, G1.out⟩
  have hsm : n ≤ 5000 := by omega
  have hsm' : (n : Int) ≤ 5000 := by omega
  clear hbig
  go_enter Tryd.func3, Tryd.ntmps3
  go_wp2_with fail
  refine HA.out.mono ?_
  rintro r w1 ⟨rfl, g1⟩
  have s1 := H.out.grown g1
  have HC := hide (copy_any ao n cap xs w1 s1.len s1.lies s1.nil (by omega))
  have G1 := hide g1
  clear g1 s1 HA
  go_wp2_with fail
  refine HC.out.mono ?_
  rintro r w2 ⟨vi, rfl, oi, g2⟩
  obtain ⟨ai, ci, rfl, i1, i2, i3, i4, i5, i6⟩ := own_at oi
  have s2 : Src w2 ai n ci xs := ⟨i4, H.out.len, i5, i2, H.out.byt, by omega, (H.out.tab.grown G1.out).grown g2⟩
  have H2 := hide (And.intro s2 (grown_trans G1.out g2))
  clear oi g2 i1 i2 i3 i4 i5 i6 s2 HC G1
  go_wp2_with fail
  refine (scan_any ai n ci xs E S w2 H2.out.1 hS0 hS1 (by omega)).mono ?_
  rintro r w3 ⟨lv, ys, rfl, f3, l3, g3⟩
  have lenL : ys.length ≤ 5000 := by
    have q1 := rowF_end E xs.length S xs (Nat.le_refl _) H.out.byt
    have q2 := fend_len (rowF E S xs)
    have q3 := H.out.len
    rw [← frs_length, f3]
    omega
  have H3 := hide (And.intro l3 (And.intro f3 (And.intro g3 lenL)))
  clear l3 f3 g3 lenL
  go_wp2_with fail
  refine (scan_any ai n ci xs E S w3 (H2.out.1.grown H3.out.2.2.1) hS0 hS1 (by omega)).mono ?_
  rintro r w4 ⟨mv, zs, rfl, f4, l4, g4⟩
  have hzy : zs.length = ys.length := by rw [← frs_length, f4, ← H3.out.2.1, frs_length]
  have H4 := hide (And.intro l4 (And.intro f4 (And.intro g4 hzy)))
  clear l4 f4 g4 hzy
  go_wp2_with fail
  refine (copyFrames_any _ lv ys w4 (H3.out.1.grown H4.out.2.2.1) (by have := H3.out.2.2.2; omega)).mono ?_
  rintro r w5 ⟨uv, rfl, us, f5, l5, g5⟩
  have H5 := hide (And.intro l5 (And.intro f5 g5))
  clear l5 f5 g5
  obtain ⟨lo, lc, el, rl, _⟩ := ((H3.out.1.grown H4.out.2.2.1).grown H5.out.2.2).read
  obtain ⟨mo, mc, em, rm, _⟩ := (H4.out.1.grown H5.out.2.2).read
  have HS := hide (sameFrs lo mo ys.length lc mc ys zs w5 (H3.out.2.1.trans H4.out.2.1.symm) rfl rl rm (by have := H3.out.2.2.2; omega))
  have HL := hide (And.intro el em)
  rw [H4.out.2.2.2] at em
  subst el em
  clear rl rm
  obtain ⟨nl, hnl⟩ : ∃ nl, nl = ys.length := ⟨_, rfl⟩
  have HNL := hide hnl
  rw [← hnl] at HS ⊢
  clear hnl
  go_wp2_with fail
  refine HS.out.mono ?_
  rintro r w6 ⟨rfl, g6⟩
  have ga := World.grownBy_alloc w6 (.cells #[.slice lo nl lc, .slice mo nl mc] 26) none
  have g56 := grown_trans g6 ga
  have hFw : Fw (w6.alloc (.cells #[.slice lo nl lc, .slice mo nl mc] 26)) w2.heap.size 2 (fun j => if j = 0 then .slice lo nl lc else .slice mo nl mc) (fun j => if j = 0 then ys else zs) (fun k => w2.heap.size ≤ k ∧ k < w4.heap.size) := by
    have k1 := ((H3.out.1.grown H4.out.2.2.1).grown H5.out.2.2).grown g56
    have k2 := (H4.out.1.grown H5.out.2.2).grown g56
    rw [HNL.out] at *
    refine two_fw k1 k2 H3.out.2.2.1.size H4.out.2.2.1.size (fun k e => (H3.out.1.own.lt k e).2) (fun y hy => (H3.out.1.each y hy).1.size) (fun k e => (H4.out.1.own.lt k e).2) (fun y hy => (H4.out.1.each y hy).1.size) H3.out.2.2.2 (by have := H3.out.2.2.2; have := H4.out.2.2.2; omega)
  have hcl : ∀ j, j < 2 → (w6.alloc (.cells #[.slice lo nl lc, .slice mo nl mc] 26)).cell? ⟨w6.heap.size, j, none⟩ = some ((fun j => if j = 0 then .slice lo nl lc else .slice mo nl mc) j) := fun j hj => by
    have h0 := heap_alloc_new w6 (.cells [Value.slice lo nl lc, .slice mo nl mc].toArray 26)
    rcases (show j = 0 ∨ j = 1 by omega) with rfl | rfl
    · exact cell_row h0 0
    · exact cell_row h0 1
  have h24 := Nat.le_trans H3.out.2.2.1.size H4.out.2.2.1.size
  have h46 : w4.heap.size ≤ (w6.alloc (.cells #[.slice lo nl lc, .slice mo nl mc] 26)).heap.size := Nat.le_trans H5.out.2.2.size g56.size
  have HAp := hide (apartFrames_any w2.heap.size 2 w6.heap.size 2 _ _ _ _ hFw hcl (by simp) (by omega) (by omega) (by omega))
  have G6 := hide (And.intro g56 (And.intro h24 h46))
  clear g6 ga g56 hFw hcl h24 h46 HS
  go_wp2_with fail
  refine HAp.out.mono ?_
  rintro r w8 ⟨rfl, gT⟩
  have g28 : w2.grownBy w8 none := grownT_after (grown_trans (grown_trans (grown_trans H3.out.2.2.1 H4.out.2.2.1) H5.out.2.2) G6.out.1) gT (fun k t => t.1)
  have l8 := (H5.out.1.grown G6.out.1).keptT gT (fun k t => t.2)
  have H8 := hide (And.intro g28 l8)
  clear gT g28 l8 HAp G6
  go_wp2_with fail
  refine (scan_any ai n ci xs E S w8 (H2.out.1.grown H8.out.1) hS0 hS1 (by omega)).mono ?_
  rintro r w9 ⟨nv, ns, rfl, f9, l9, g9⟩
  have s9 := (H2.out.1.grown H8.out.1).grown g9
  have H9 := hide (And.intro l9 (And.intro (f9.trans (H3.out.2.1.symm.trans H5.out.2.1.symm)) (And.intro (H8.out.2.grown g9) (And.intro s9 (grown_trans H2.out.2 (grown_trans H8.out.1 g9))))))
  have hnl9 : ns.length ≤ 5000 := by
    have q1 := rowF_end E xs.length S xs (Nat.le_refl _) H.out.byt
    have q2 := fend_len (rowF E S xs)
    have q3 := H.out.len
    rw [← frs_length, f9]
    omega
  clear l9 f9 g9 s9 H8 H5 H4 H3 H2
  obtain ⟨no, nc, en, rn, _⟩ := H9.out.1.read
  obtain ⟨uo, uc, eu, ru, _⟩ := H9.out.2.2.1.read
  have hnu : us.length = ns.length := by rw [← frs_length, ← H9.out.2.1, frs_length]
  rw [hnu] at eu
  have HR9 := hide (And.intro rn (And.intro ru H9.out.2.1))
  subst en eu
  obtain ⟨nn, hnn⟩ : ∃ nn, nn = ns.length := ⟨_, rfl⟩
  have HNN := hide hnn
  rw [← hnn] at hnl9 H9 ⊢
  clear rn ru hnu hnn
  go_wp2_with fail
  refine (fget_any xs H.out.byt ai n ci w9 H.out.len H9.out.2.2.2.1.lies H9.out.2.2.2.1.nil H9.out.2.2.2.1.fits H9.out.2.2.2.1.sm H9.out.2.2.2.1.tab).mono ?_
  rintro r w10 ⟨b1, rfl, o1, g10⟩
  obtain ⟨ao1, ac1, hb1⟩ := own_form o1
  have gA := World.grownBy_alloc w10 (.cells #[.int .u64 (getF xs).f.e, .int .u64 (getF xs).f.s, b1] 34) none
  have sA := (H9.out.2.2.2.1.grown g10).grown gA
  have hbx := heap_alloc_new w10 (.cells [Value.int .u64 (getF xs).f.e, .int .u64 (getF xs).f.s, b1].toArray 34)
  have HGet := hide (fget_any xs H.out.byt ai n ci _ H.out.len sA.lies sA.nil sA.fits sA.sm sA.tab)
  have H10 := hide (And.intro o1 (And.intro g10 (And.intro gA hbx)))
  have HB1 := hide hb1
  clear o1 g10 gA sA hbx
  subst hb1
  obtain ⟨fr, hfr⟩ : ∃ fr, fr = (getF xs).f := ⟨_, rfl⟩
  obtain ⟨fn, hfn⟩ : ∃ fn, fn = (getF xs).n := ⟨_, rfl⟩
  obtain ⟨fc, hfc⟩ : ∃ fc, fc = (getF xs).c := ⟨_, rfl⟩
  have HFR := hide (And.intro hfr (And.intro hfn hfc))
  rw [← hfr, ← hfn, ← hfc] at HGet ⊢
  rw [← hfr] at H10
  clear hfr hfn hfc
  obtain ⟨nb, hnb⟩ : ∃ nb, nb = fr.b.length := ⟨_, rfl⟩
  have HNB := hide hnb
  rw [← hnb] at HGet H10 ⊢
  clear hnb
  unfold frV at HGet ⊢
  go_wp2_with fail
  refine HGet.out.mono ?_
  rintro r w11 ⟨b2, rfl, o2, g11⟩
  obtain ⟨ao2, ac2, hb2⟩ := own_form o2
  subst hb2
  have gw11 := grown_trans (grown_trans H10.out.2.1 H10.out.2.2.1) g11
  have hbx := (g11.block w10.heap.size (by simp) (by simp)).trans H10.out.2.2.2
  have c0 : w11.cell? ⟨w10.heap.size, 0, none⟩ = some (.int .u64 fr.e) := cell_row hbx 0
  have c1 : w11.cell? ⟨w10.heap.size, 1, none⟩ = some (.int .u64 fr.s) := cell_row hbx 1
  have c2 : w11.cell? ⟨w10.heap.size, 2, none⟩ = some (.slice ao1 nb ac1) := cell_row hbx 2
  have hlt : w10.heap.size < w11.heap.size := row_lt hbx
  have gB := World.grownBy_alloc w11 (.cells #[.int .u64 fr.e, .int .u64 fr.s, .slice ao2 nb ac2] 34) none
  have H11 := hide (And.intro o2 (And.intro g11 gB))
  have GW0 := hide (grown_trans gw11 gB)
  clear gw11 hbx gB o2 g11 HGet
  by_cases hfc : fc = 0
  · have hfc' : (fc == 0) = true := by simpa using hfc
    have hnb : nb ≤ 32 := by rw [HNB.out, HFR.out.1]; exact (getF_ok H.out.byt (by rw [← HFR.out.2.2]; exact hfc)).2.1
    subst hfc
    have gC := World.grownBy_alloc (w11.alloc (.cells #[.int .u64 fr.e, .int .u64 fr.s, .slice ao2 nb ac2] 34)) (.cells #[.int .u64 fr.e, .int .u64 fr.s, .slice ao1 nb ac1, .int .u64 fr.e, .int .u64 fr.s, .slice ao2 nb ac2] 34) none
    have hlist := World.ownsRow_lit (base := w9.heap.size) (e := 34) (size := 3) (w11.alloc (.cells #[.int .u64 fr.e, .int .u64 fr.s, .slice ao2 nb ac2] 34)) #[.int .u64 fr.e, .int .u64 fr.s, .slice ao1 nb ac1, .int .u64 fr.e, .int .u64 fr.s, .slice ao2 nb ac2] 2 (by have := GW0.out.size; exact this) (by unfold maxLen; omega) rfl
    have gD := World.grownBy_alloc ((w11.alloc (.cells #[.int .u64 fr.e, .int .u64 fr.s, .slice ao2 nb ac2] 34)).alloc (.cells #[.int .u64 fr.e, .int .u64 fr.s, .slice ao1 nb ac1, .int .u64 fr.e, .int .u64 fr.s, .slice ao2 nb ac2] 34)) (.cells #[.slice (some ⟨w11.heap.size + 1, 0, none⟩) 2 2] 26) none
    rw [World.size_alloc] at hlist
    have gCD := grown_trans gC gD
    have hsz : w10.heap.size + 1 ≤ w11.heap.size := hlt
    have hg9 := H10.out.2.1.size
    have hFw : Fw (((w11.alloc (.cells #[.int .u64 fr.e, .int .u64 fr.s, .slice ao2 nb ac2] 34)).alloc (.cells #[.int .u64 fr.e, .int .u64 fr.s, .slice ao1 nb ac1, .int .u64 fr.e, .int .u64 fr.s, .slice ao2 nb ac2] 34)).alloc (.cells #[.slice (some ⟨w11.heap.size + 1, 0, none⟩) 2 2] 26)) w9.heap.size 1 (fun _ => .slice (some ⟨w11.heap.size + 1, 0, none⟩) 2 2) (fun _ => [⟨0, fr, .slice ao1 nb ac1, w9.heap.size, w10.heap.size⟩, ⟨0, fr, .slice ao2 nb ac2, w10.heap.size + 1, w11.heap.size⟩]) (fun k => w9.heap.size ≤ k ∧ k < w11.heap.size + 3) := by
      refine one_fw ⟨?_, ?_, ?_⟩ ⟨?_, ?_, ?_⟩ (Nat.le_refl _) (by show w10.heap.size ≤ w10.heap.size + 1; omega) (by show w11.heap.size ≤ w11.heap.size + 3; omega) (by show fr.b.length ≤ 32; rw [← HNB.out]; exact hnb) (by show fr.b.length ≤ 32; rw [← HNB.out]; exact hnb) (by show w10.heap.size ≤ w11.heap.size + 3; omega) (by show w9.heap.size ≤ w10.heap.size + 1; omega) ?_ (by omega)
      · show World.ownsRow _ w9.heap.size 5 1 (.slice ao1 nb ac1) fr.b.length (fr.b.map (Value.int .u8))
        rw [← HNB.out]
        exact own_grown (own_grown (own_grown H10.out.1 (grown_trans H10.out.2.2.1 H11.out.2.1)) H11.out.2.2) gCD
      · exact fun k e => (H10.out.1.lt k e).2
      · show w10.heap.size ≤ _; simp; omega
      · show World.ownsRow _ (w10.heap.size + 1) 5 1 (.slice ao2 nb ac2) fr.b.length (fr.b.map (Value.int .u8))
        rw [← HNB.out]
        have q := H11.out.1
        rw [World.size_alloc] at q
        exact own_grown (own_grown q H11.out.2.2) gCD
      · exact fun k e => (H11.out.1.lt k e).2
      · show w11.heap.size ≤ _; simp; omega
      · exact own_grown hlist gD
    have hcl : ∀ j, j < 1 → (((w11.alloc (.cells #[.int .u64 fr.e, .int .u64 fr.s, .slice ao2 nb ac2] 34)).alloc (.cells #[.int .u64 fr.e, .int .u64 fr.s, .slice ao1 nb ac1, .int .u64 fr.e, .int .u64 fr.s, .slice ao2 nb ac2] 34)).alloc (.cells #[.slice (some ⟨w11.heap.size + 1, 0, none⟩) 2 2] 26)).cell? ⟨w11.heap.size + 2, j, none⟩ = some ((fun _ => Value.slice (some ⟨w11.heap.size + 1, 0, none⟩) 2 2) j) := fun j hj => by
      have h0 := heap_alloc_new ((w11.alloc (.cells #[.int .u64 fr.e, .int .u64 fr.s, .slice ao2 nb ac2] 34)).alloc (.cells #[.int .u64 fr.e, .int .u64 fr.s, .slice ao1 nb ac1, .int .u64 fr.e, .int .u64 fr.s, .slice ao2 nb ac2] 34)) (.cells [Value.slice (some ⟨w11.heap.size + 1, 0, none⟩) 2 2].toArray 26)
      rw [World.size_alloc, World.size_alloc] at h0
      obtain rfl : j = 0 := by omega
      exact cell_row h0 0
    have HAp := hide (apartFrames_any w9.heap.size 1 (w11.heap.size + 2) 1 _ _ _ _ hFw hcl (by simp) (by omega) (by omega) (by simp; omega))
    have GC := hide (grown_trans GW0.out gCD)
    clear gC hlist gD gCD hFw hcl
    go_wp2_with fail
    refine HAp.out.mono ?_
    rintro r w13 ⟨rfl, gT⟩
    have GW := hide (grownT_after GC.out gT (fun k t => t.1))
    clear gT HAp GC GW0 c0 c1 c2
    go_wp2_with fail
    refine (sameFrs no uo nn nc uc ns us _ HR9.out.2.2 HNN.out.symm (HR9.out.1.grown GW.out) (HR9.out.2.1.grown GW.out) (by omega)).mono ?_
    rintro r w14 ⟨rfl, g14⟩
    have GX := hide (grown_trans GW.out g14)
    clear g14
    go_wp2_with fail
    refine (same_eq ai ao n ci cap xs w14 H.out.len ((H9.out.2.2.2.1.grown GX.out).lies) ((H.out.grown (grown_trans H9.out.2.2.2.2 GX.out)).lies) (by omega)).mono ?_
    rintro r w15 ⟨rfl, g15⟩
    have GY := hide (grown_trans H9.out.2.2.2.2 (grown_trans GX.out g15))
    clear g15
    go_wp2
    go_ret
    exact ⟨rfl, GY.out⟩
  · have hfc' : (fc == 0) = false := by simpa using hfc
    have GW := GW0
    clear GW0 c0 c1 c2
    go_wp2_with fail
    refine (sameFrs no uo nn nc uc ns us _ HR9.out.2.2 HNN.out.symm (HR9.out.1.grown GW.out) (HR9.out.2.1.grown GW.out) (by omega)).mono ?_
    rintro r w14 ⟨rfl, g14⟩
    have GX := hide (grown_trans GW.out g14)
    clear g14
    go_wp2_with fail
    refine (same_eq ai ao n ci cap xs w14 H.out.len ((H9.out.2.2.2.1.grown GX.out).lies) ((H.out.grown (grown_trans H9.out.2.2.2.2 GX.out)).lies) (by omega)).mono ?_
    rintro r w15 ⟨rfl, g15⟩
    have GY := hide (grown_trans H9.out.2.2.2.2 (grown_trans GX.out g15))
    clear g15
    go_wp2
    go_ret
    exact ⟨rfl, GY.out⟩
end Go.Proofs.YtoeehajdmdmemabDoor
