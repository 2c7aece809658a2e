/- Texts joined: Aw, Ld, Fst, Lh, Ep0, Ep1. -/
import Derived.Test.YtofdijaipjkfbaaDoorJeAt
import Derived.Test.YtofdijaipjkfbaaDoorJeAh
/- awake. -/
namespace Go.Proofs.YtofdijaipjkfbaaDoor
open Go.RowKit Ap
attribute [local go_sem ↓] Go.wp_at_zero Go.wp_at_succ
theorem pN1 : pN 1 = 2 := by decide
theorem u3 : U64 3 := ⟨by decide, by decide⟩
theorem u7 : U64 7 := ⟨by decide, by decide⟩
theorem aw_at {w : World} {A : Nat} {fr : Nat × Nat} {xs : List Nat} (h : w.heap[A]? = some (.cells (bv xs).toArray 5 fr)) : At w (some ⟨A, 0, none⟩) xs := by
  intro j u hu
  have e : (⟨A, 0, none⟩ : Addr).add j = ⟨A, j, none⟩ := by unfold Addr.add; split <;> simp_all
  exact ⟨_, rfl, by rw [e, cell_row h j]; exact bv_get _ _ _ hu⟩
theorem aw_ap (l : Nat) : apC 2 (Lg.new l 3 7) 3 = 0 := by simp [apC, fitsB, Lg.new, Lg.end_]
theorem aw_drop (xs : List Nat) (h : xs.length ≤ 128) : (bytesAt (splice (zs ((2 + 1) * 64)) (1 * 64 + 0) xs) (1 * 64) (2 * 64)).drop xs.length = zs (128 - xs.length) := by
  have hz : (zs ((2 + 1) * 64)).length = 192 := List.length_replicate ..
  have hz2 : (zs (2 * 64)).length = 128 := List.length_replicate ..
  rw [bytesAt_splice _ _ _ _ _ (by omega) (by omega), bytesAt_zs _ _ _ (by omega)]
  apply List.ext_getElem?
  intro i
  rw [List.getElem?_drop, splice_get _ _ _ _ (by omega), if_neg (by omega)]
  simp only [zs, List.getElem?_replicate]
  by_cases hi : i < 128 - xs.length
  · rw [if_pos (by omega), if_pos hi]
  · rw [if_neg (by omega), if_neg hi]
set_option maxRecDepth 20000 in
set_option maxHeartbeats 8000000 in
theorem awake_any (w : World) (hT : Fm.Cr.Tab w) (hw0 : 0 < w.heap.size) : Calls Tryd.prog 18 #[] w fun e w' => e = .returned (.bool true) ∧ w.grownBy w' none := by
  have HT := hide (And.intro hT hw0)
  clear hT hw0
  go_enter Tryd.func18, Tryd.ntmps18
  go_wp2_with fail
  refine (place_any w w 1 (grown_refl _ _)).mono ?_
  rintro e w1 ⟨p, r, qr, rfl, p1⟩
  rw [pN1] at p1
  have P1 := hide p1
  clear p1
  go_wp2_with fail
  refine (sNew P1.out (Nat.le_refl _) (by omega) (by omega) 3 7 u3 u7).mono ?_
  rintro e w2 ⟨l, rfl, h2, g2⟩
  have H2 := hide h2
  clear h2 g2 P1
  go_wp2_with fail
  have g3 := World.grownBy_alloc w2 (.cells #[.int .u8 1, .int .u8 2, .int .u8 3] 5) none
  have n3 : (w2.alloc (.cells #[.int .u8 1, .int .u8 2, .int .u8 3] 5)).heap[w2.heap.size]? = some (.cells (bv [1, 2, 3]).toArray 5 (0, 0)) := heap_alloc_new w2 _
  have H3 := hide (And.intro (H2.out.then g3) n3)
  clear g3 n3 H2
  generalize w2.alloc (.cells #[.int .u8 1, .int .u8 2, .int .u8 3] 5) = w3 at *
  generalize w2.heap.size = A at *
  have ha := sAppend H3.out.1 HT.out.1 HT.out.2 (some ⟨A, 0, none⟩) 3 3 [1, 2, 3] rfl (aw_at H3.out.2) (by intro x hx; simp at hx; omega) (Nat.le_refl _) (by decide)
  rw [aw_ap l] at ha
  refine ha.mono ?_
  clear ha
  rintro e w4 (⟨h1, _⟩ | ⟨-, rfl, v4, h4, -⟩)
  · exact absurd rfl h1
  have e8 : (Lg.new l 3 7).la + 1 = 8 := rfl
  rw [e8]
  have H4 := hide h4
  clear h4 H3
  go_wp2_with fail
  refine (sFlush H4.out (by omega)).mono ?_
  rintro e w5 ⟨rfl, k5, c5, g5, h5, c5', f5, -⟩
  have hl : g5.l = l := f5.l
  have hh : Fm.rowF 3 7 (ints (bytesAt (splice (zs ((2 + 1) * 64)) (1 * 64 + ((Lg.new l 3 7).more [1, 2, 3] v4).a) ((Lg.new l 3 7).more [1, 2, 3] v4).bs) (1 * 64) (2 * 64))) = [⟨3, 8, [1, 2, 3]⟩] := by
    have he : g5.e = 3 := f5.e
    have hb : ((Lg.new l 3 7).more [1, 2, 3] v4).bs.length = 25 := by show ([] ++ Fm.nats ((Lg.new l 3 7).fr [1, 2, 3]).out).length = 25; rw [List.nil_append, Fm.nats_length, fr_len]; rfl
    have ha : g5.a = ((Lg.new l 3 7).more [1, 2, 3] v4).bs.length := by rw [f5.a]; show 0 + _ = _; omega
    have := h5.hist.only f5.bs (by rw [he]; decide) (128 - ((Lg.new l 3 7).more [1, 2, 3] v4).bs.length) (by rw [ha]; exact aw_drop _ (by rw [hb]; omega))
    rw [he] at this
    exact this
  have HE : Hid (g5.end_ = 25 ∧ g5.du = 8) := by
    refine ⟨?_, f5.du⟩
    rw [f5.end_, H4.out.hist.end_]
    rfl
  have H5 := hide (And.intro h5 (And.intro c5' hh))
  clear h5 c5' f5 hh H4
  generalize splice (zs ((2 + 1) * 64)) (1 * 64 + ((Lg.new l 3 7).more [1, 2, 3] v4).a) ((Lg.new l 3 7).more [1, 2, 3] v4).bs = D5 at *
  go_wp2_with fail
  have hs := sScan H5.out.1 (by have := H5.out.2.1; omega) HT.out.1 3 7 u7
  rw [H5.out.2.2] at hs
  refine hs.mono ?_
  clear hs
  rintro e w6 ⟨v, ys, c6, rfl, h7, h8, h9, -, -⟩
  obtain ⟨ao, cap, rfl, hr, hcap⟩ := h8.read
  have hlen : ys.length = 1 := by have := congrArg List.length h7; rw [Fm.frs_length] at this; simpa using this
  obtain ⟨y, rfl⟩ : ∃ y, ys = [y] := List.length_eq_one_iff.1 hlen
  have hy : y.f = ⟨3, 8, [1, 2, 3]⟩ := by simpa [Fm.frs] using h7
  obtain ⟨gf, rfl, hf⟩ := hr 0 y rfl
  obtain ⟨bo, bc, hv, hbody⟩ := hf.body
  have c1 := hf.c1
  have c2 := hf.c2
  rw [hv] at c2
  rw [hy] at c1 c2 hbody
  simp only [Nat.zero_mul, Nat.zero_add, List.length_cons, List.length_nil] at c1 c2 hbody hcap
  have H7 := hide (And.intro h9 hbody)
  clear h7 h8 h9 hr hlen hf hv hbody hy
  have hfe : ((Fm.fend [⟨3, 8, [1, 2, 3]⟩] : Nat) : Int) = 25 := rfl
  rw [hfe]
  simp only [List.length_cons, List.length_nil]
  clear hfe
  go_wp2_with fail
  have g8 := World.grownBy_alloc w6 (.cells #[.int .u8 1, .int .u8 2, .int .u8 3] 5) none
  have n8 : (w6.alloc (.cells #[.int .u8 1, .int .u8 2, .int .u8 3] 5)).heap[w6.heap.size]? = some (.cells (bv [1, 2, 3]).toArray 5 (0, 0)) := heap_alloc_new w6 _
  have H8 := hide (And.intro (H7.out.1.then g8) (And.intro (H7.out.2.kept g8 (fun _ _ e => by cases e)) n8))
  clear g8 n8 H7 c1 c2
  generalize w6.alloc (.cells #[.int .u8 1, .int .u8 2, .int .u8 3] 5) = w8 at *
  generalize w6.heap.size = A8 at *
  refine (Fm.same_eq bo (some ⟨A8, 0, none⟩) 3 bc 3 [1, 2, 3] w8 rfl H8.out.2.1 (At.ints (xs := [1, 2, 3]) (aw_at H8.out.2.2)) (by omega)).mono ?_
  rintro e w9 ⟨rfl, g9⟩
  have H9 := hide (H8.out.1.then g9)
  clear g9 H8
  have hu := lUsed_at H9.out.at_
  rw [hl, HE.out.1] at hu
  go_wp2_with fail
  refine hu.mono ?_
  clear hu
  rintro e w10 ⟨rfl, q, rfl⟩
  have H10 := hide (H9.out.then (grown_drewN w9 q none))
  clear H9
  generalize w9.drewN q = w10 at *
  have hu := lDurable_at H10.out.at_
  rw [hl, HE.out.2] at hu
  go_wp2_with fail
  refine hu.mono ?_
  clear hu
  rintro e w11 ⟨rfl, rfl⟩
  go_wp2
  go_ret
  exact ⟨rfl, H10.out.at_.grown0⟩
end Go.Proofs.YtofdijaipjkfbaaDoor
/- Arguments opened: rows of ints. -/
namespace Go.Proofs.YtofdijaipjkfbaaDoor
open Go.ChangeShapes Go.WideShapes Go.ChangeAt Go.RowKit Go.Deep
theorem cells3 : Tryd.prog.cellsOf 3 = 1 := by kernel_rfl
variable {H : Type} {enc : TypeId × Value → H}
set_option maxRecDepth 100000 in
/-- An argument that is a slice of int: its numbers. -/
theorem open_zArg {w : World} {base : Nat} {spare : Nat → Bool} {held : Bool} {r : Reach} {b0 : Nat} {v : Value} {d : DataW H} {ps : List MemPlace} (hval : Value.okWide Tryd.prog w r b0 55 v) (hd : DataW.Trod enc Tryd.prog w base spare held 55 v d ps) :
    ∃ ao n cap, ∃ xs : List Int, v = .slice ao n cap ∧ xs.length = n ∧ (∀ j u, xs[j]? = some u → ∃ a, ao = some a ∧ w.cell? (a.add j) = some (.int .i64 u)) := by
  obtain ⟨ao, n, cap, rfl⟩ := okWide_slice Tryd.underlying55 hval
  obtain ⟨fuel, hf⟩ := hd
  rcases open_ints Tryd.underlying55 Tryd.underlying3 cells3 hf with ⟨hcs, _⟩ | ⟨a, len, cap', zs, hcs, _, hl, hm, hz, hx, hcell, hwf⟩
  · simp [Value.cells] at hcs
    obtain ⟨rfl, rfl, rfl⟩ := hcs
    exact ⟨none, 0, 0, [], rfl, rfl, (fun j u h => by simp at h)⟩
  · simp [Value.cells] at hcs
    obtain ⟨rfl, rfl, rfl⟩ := hcs
    have hzl : n ≤ zs.length := by rw [hz]; split <;> omega
    refine ⟨some a, n, cap, zs.take n, rfl, by simp; omega, ?_⟩
    intro j u hu
    rw [List.getElem?_take] at hu
    split at hu
    · rename_i hj
      have hj2 : j < zs.length := by omega
      have hc := hcell j hj2
      refine ⟨a, rfl, ?_⟩
      rw [hc]
      simp [List.getD_eq_getElem?_getD, hu]
    · cases hu
end Go.Proofs.YtofdijaipjkfbaaDoor
/- first: frames that were told begin with these bodies. -/
namespace Go.Proofs.YtofdijaipjkfbaaDoor
open Go.RowKit Ap
attribute [local go_sem ↓] Go.wp_at_zero Go.wp_at_succ
/-- Rows of bytes, read through a row of slices. -/
def BRows (w : World) (bo : Option Addr) (bs : List (List Nat)) : Prop := ∀ j x, bs[j]? = some x → ∃ a co c, bo = some a ∧ w.cell? (a.add j) = some (.slice co x.length c) ∧ At w co x
theorem BRows.grown {w w' : World} {bo : Option Addr} {bs : List (List Nat)} (h : BRows w bo bs) (hg : w.grownBy w' none) : BRows w' bo bs := by
  intro j x hx
  obtain ⟨a, co, c, h1, h2, h3⟩ := h j x hx
  exact ⟨a, co, c, h1, hg.cell h2 (by simp), h3.grown hg⟩
theorem at_of_ints {w : World} {ao : Option Addr} {xs : List Nat} (h : Fm.At w ao (ints xs)) : At w ao xs := by
  intro j u hu
  exact h j u (by simp [ints, hu])
set_option maxRecDepth 20000 in
set_option maxHeartbeats 4000000 in
theorem first_any (ao : Option Addr) (L cap : Nat) (ys : List Fm.El) (bo : Option Addr) (m bc : Nat) (bs : List (List Nat)) (E S : Int) (w : World) (hS : 0 ≤ S) (hS1 : S + m < 18446744073709551616) (hF : Fm.FsR w ao ys) (hB : BRows w bo bs) (hlen : bs.length = m) (_hL : ys.length = L) (hm : m ≤ L) (_hL2 : L ≤ cap) (hbig : L ≤ 1000000)
    (hpre : ∀ (j : Nat) (x : List Nat), bs[j]? = some x → ∃ y : Fm.El, ys[j]? = some y ∧ y.f = ⟨E, S + (j : Int) + 1, ints x⟩) :
    Calls Tryd.prog 24 #[.slice ao L cap, .slice bo m bc, .int .u64 E, .int .u64 S] w fun e w' => e = .returned (.bool true) ∧ ∃ q, w' = w.drewN q := by
  have HF := hide (And.intro hF (And.intro hB (And.intro hlen hpre)))
  clear hF hB hlen hpre _hL
  have hd1 : decide ((L : Int) < (m : Int)) = false := decide_eq_false (by omega)
  have hd2 : decide (L < m) = false := decide_eq_false (by omega)
  go_enter Tryd.func24, Tryd.ntmps24
  go_wp2
  go_loopg [9] m (fun q i wr => ∃ j : Nat, q + j = m ∧ i = .int .i64 j ∧ ∃ q, wr = w.drewN q)
  case atStart => exact ⟨0, by omega, rfl, 0, rfl⟩
  case round =>
    obtain ⟨j, hkj, rfl, q, rfl⟩ := hrel
    by_cases hk : 0 < gk
    · obtain ⟨hF, hB, hlen, hpre⟩ := HF.out
      obtain ⟨x, hx⟩ : ∃ x, bs[j]? = some x := ⟨_, List.getElem?_eq_getElem (by omega)⟩
      obtain ⟨y, hy, hyf⟩ := hpre j x hx
      obtain ⟨gf, hao, hc⟩ := hF j y hy
      obtain ⟨a, co, cc, hbo, hcell, hat⟩ := hB j x hx
      subst hao hbo
      obtain ⟨vo, vc, hv, hbody⟩ := hc.body
      have c0 := hc.c0
      have c1 := hc.c1
      have c2 := hc.c2
      have hsh := hc.short
      rw [hv] at c2
      rw [hyf] at c0 c1 c2 hbody hsh
      simp only [ints_length] at c2 hsh
      have hj0 : (0 : Int) ≤ (j : Int) := by omega
      have hj1 : (j : Int) < (m : Int) := by omega
      have hj2 : (j : Int) < (L : Int) := by omega
      have hw1 : IntKind.u64.wrap (j : Int) = (j : Int) := by rw [IntKind.wrap_u64]; omega
      have hw2 : IntKind.u64.wrap (S + (j : Int)) = S + (j : Int) := by rw [IntKind.wrap_u64]; omega
      have hw3 : IntKind.u64.wrap (S + (j : Int) + 1) = S + (j : Int) + 1 := by rw [IntKind.wrap_u64]; omega
      have g0 := grown_drewN w q none
      replace c0 := g0.cell c0 (by simp)
      replace c1 := g0.cell c1 (by simp)
      replace c2 := g0.cell c2 (by simp)
      replace hcell := g0.cell hcell (by simp)
      have hA1 := (at_of_ints hbody).grown g0
      have hA2 := hat.grown g0
      have HX : Hid (∀ n, ∃ q', (w.drewN q).drewN n = w.drewN q') := fun n => drews w q n
      clear hF hB hlen hpre hx hy hyf hc hat hv hbody g0
      generalize w.drewN q = wr at *
      have HSB : Hid (∀ q, Calls Tryd.prog 40 #[.slice vo x.length vc, .slice co x.length cc] (wr.drewN q) fun e w' => e = .returned (.bool true) ∧ ∃ m, w' = (wr.drewN q).drewN m) := fun q => sameBytes_eq vo co x.length vc cc x (wr.drewN q) rfl (hA1.grown (grown_drewN _ _ none)) (hA2.grown (grown_drewN _ _ none)) (by omega)
      clear hA1 hA2
      generalize x.length = xl at *
      go_wp2_with fail
      go_quiet ((go_at_call 40; exact Calls.quiet_of (HSB.out _)))
      go_wp2
      go_roundg (gk - 1)
      case measure => omega
      case rel =>
        exact ⟨j + 1, by omega, by go_num, HX.out _⟩
    · have hj : j = m := by omega
      subst hj
      go_wp2
      go_ret
      exact ⟨rfl, q, rfl⟩
end Go.Proofs.YtofdijaipjkfbaaDoor
/- Rows of rows of bytes that came in, opened. -/
namespace Go.Proofs.YtofdijaipjkfbaaDoor
open Go.ChangeShapes Go.WideShapes Go.ChangeAt Go.RowKit Go.Deep Ap
/-- Rows of bytes that came in. -/
def BRow (w : World) (ro : Option Addr) (R : List (List Nat)) : Prop := ∀ j xs, R[j]? = some xs → ∃ b o ao cap, ro = some ⟨b, o, none⟩ ∧ w.cell? ⟨b, o + j, none⟩ = some (.slice ao xs.length cap) ∧ At w ao xs ∧ (ao = none → xs.length = 0 ∧ cap = 0) ∧ xs.length ≤ 140737488355000 ∧ Bytes xs ∧ xs.length ≤ cap
theorem BRow.grown {w w' : World} {ro : Option Addr} {R : List (List Nat)} (h : BRow w ro R) (hg : w.grownBy w' none) : BRow w' ro R := by
  intro j xs hj
  obtain ⟨b, o, ao, cap, h1, h2, h3, h4⟩ := h j xs hj
  exact ⟨b, o, ao, cap, h1, hg.cell h2 (by simp), h3.grown hg, h4⟩
/-- Rows of such rows. -/
def BRow3 (w : World) (ro : Option Addr) (R : List (List (List Nat))) : Prop := ∀ j xs, R[j]? = some xs → ∃ b o ao cap, ro = some ⟨b, o, none⟩ ∧ w.cell? ⟨b, o + j, none⟩ = some (.slice ao xs.length cap) ∧ BRow w ao xs ∧ xs.length ≤ 140737488355328
theorem BRow3.grown {w w' : World} {ro : Option Addr} {R : List (List (List Nat))} (h : BRow3 w ro R) (hg : w.grownBy w' none) : BRow3 w' ro R := by
  intro j xs hj
  obtain ⟨b, o, ao, cap, h1, h2, h3, h4⟩ := h j xs hj
  exact ⟨b, o, ao, cap, h1, hg.cell h2 (by simp), h3.grown hg, h4⟩
theorem bytes60x : Tryd.prog.bytesOf 60 = 24 := by kernel_rfl
theorem cells60x : Tryd.prog.cellsOf 60 = 1 := by kernel_rfl
section
variable {H : Type} {enc : TypeId × Value → H}
set_option maxRecDepth 100000 in
theorem open_rowsB {w : World} {base fuel : Nat} {spare : Nat → Bool} {held : Bool} {cs : List Value} {x : DataW H × List MemPlace} (h : DataW.trod enc Tryd.prog w base spare held fuel 60 cs = some x) (hz : ∀ n ∈ x.1.weights Tryd.prog 60, n ≤ reachBytes) :
    ∃ ao cap R, cs = [.slice ao R.length cap] ∧ BRow w ao R ∧ R.length ≤ 140737488355328 := by
  rcases open_slice Tryd.underlying60 h with ⟨rfl, rfl⟩ | ⟨a, len, cap, m, n, D, Pl, rfl, hb, hl, hm, hmm, rfl, hx⟩
  · exact ⟨none, 0, [], rfl, fun j p hj => by simp at hj, by simp⟩
  · have hlm : len ≤ m := by rw [hmm]; split <;> omega
    have hw : ∀ i, i < len → ∀ n ∈ (D i).weights Tryd.prog 23, n ≤ reachBytes := fun i hi n hn => hz n (by
      simp only [DataW.weights, Tryd.underlying60]
      exact List.mem_cons_of_mem _ (List.mem_append_left _ (weights_all_mem (d := D i) (List.mem_map.2 ⟨i, by simpa using hi, rfl⟩) n hn)))
    have hsz : len * 24 ≤ reachBytes := by
      have := hz ((((List.range len).map D).length + ((List.range (m - len)).map fun j => D (len + j)).length) * Tryd.prog.bytesOf 23) (by simp [DataW.weights, Tryd.underlying60])
      rw [Tryd.bytes46] at this
      simp at this
      omega
    have hex : ∀ i, i < len → ∃ xs : List Nat, ∃ b o ao cap, some a = some (⟨b, o, none⟩ : Addr) ∧ w.cell? ⟨b, o + i, none⟩ = some (.slice ao xs.length cap) ∧ At w ao xs ∧ (ao = none → xs.length = 0 ∧ cap = 0) ∧ xs.length ≤ 140737488355000 ∧ Bytes xs ∧ xs.length ≤ cap := by
      intro i hi
      rw [Tryd.cells46] at hx
      have key : ∀ i, i < len → ∃ xs : List Nat, ∃ ao cap, w.cell? (a.add (i * 1)) = some (.slice ao xs.length cap) ∧ At w ao xs ∧ (ao = none → xs.length = 0 ∧ cap = 0) ∧ xs.length ≤ 140737488355000 ∧ Bytes xs ∧ xs.length ≤ cap := by
        intro i hi
        obtain ⟨cs', hc, ht⟩ := hx i (by omega)
        obtain ⟨_, hlen, hcell⟩ := World.cells?_some hc
        obtain ⟨bo, bn, cap, b, rfl, hB, _⟩ := Fm.open_bytes ht (hw i hi)
        have hl2 : (Fm.nats b).length = bn := by rw [Fm.nats_length]; exact hB.len
        refine ⟨Fm.nats b, bo, cap, by rw [hl2]; have := hcell 0 (by omega); simpa [Addr.add] using this, at_of_ints (by rw [ints_nats hB.byt]; exact hB.at_), by rw [hl2]; exact hB.nil, by rw [hl2]; have := hB.sm; omega, nats_bytes hB.byt, by rw [hl2]; exact hB.fits⟩
      obtain ⟨_, _, _, k0, _⟩ := key 0 (by omega)
      have ha : a = ⟨a.block, a.off, none⟩ := addr_flat (by simpa [Addr.add] using k0)
      obtain ⟨xs, ao, cap, k1, k2⟩ := key i hi
      refine ⟨xs, a.block, a.off, ao, cap, by rw [← ha], ?_, k2⟩
      rw [ha, Addr.add_lit, Nat.mul_one] at k1; exact k1
    obtain ⟨R, hF1, hF2⟩ : ∃ R : List (List Nat), R.length = len ∧ BRow w (some a) R := by
      clear hsz hx hz h hlm hmm hl hw
      induction len with
      | zero => exact ⟨[], rfl, fun j p hj => by simp at hj⟩
      | succ k ih =>
        obtain ⟨F, f1, f2⟩ := ih (fun i hi => hex i (by omega))
        obtain ⟨p, g1⟩ := hex k (by omega)
        refine ⟨F ++ [p], by simp [f1], ?_⟩
        intro j q hj
        by_cases hjk : j < F.length
        · rw [List.getElem?_append_left hjk] at hj; exact f2 j q hj
        · have hlt := (List.getElem?_eq_some_iff.1 hj).1
          have hjk2 : j = k := by simp at hlt; omega
          subst hjk2
          rw [List.getElem?_append_right (by omega), f1, Nat.sub_self] at hj
          simp at hj
          subst hj
          exact g1
    exact ⟨some a, cap, R, by rw [hF1], hF2, by rw [hF1]; unfold reachBytes at hsz; omega⟩
set_option maxRecDepth 100000 in
theorem open_rows3 {w : World} {base fuel : Nat} {spare : Nat → Bool} {held : Bool} {cs : List Value} {x : DataW H × List MemPlace} (h : DataW.trod enc Tryd.prog w base spare held fuel 59 cs = some x) (hz : ∀ n ∈ x.1.weights Tryd.prog 59, n ≤ reachBytes) :
    ∃ ao cap R, cs = [.slice ao R.length cap] ∧ BRow3 w ao R ∧ R.length ≤ 140737488355328 := by
  rcases open_slice Tryd.underlying59 h with ⟨rfl, rfl⟩ | ⟨a, len, cap, m, n, D, Pl, rfl, hb, hl, hm, hmm, rfl, hx⟩
  · exact ⟨none, 0, [], rfl, fun j p hj => by simp at hj, by simp⟩
  · have hlm : len ≤ m := by rw [hmm]; split <;> omega
    have hw : ∀ i, i < len → ∀ n ∈ (D i).weights Tryd.prog 60, n ≤ reachBytes := fun i hi n hn => hz n (by
      simp only [DataW.weights, Tryd.underlying59]
      exact List.mem_cons_of_mem _ (List.mem_append_left _ (weights_all_mem (d := D i) (List.mem_map.2 ⟨i, by simpa using hi, rfl⟩) n hn)))
    have hsz : len * 24 ≤ reachBytes := by
      have := hz ((((List.range len).map D).length + ((List.range (m - len)).map fun j => D (len + j)).length) * Tryd.prog.bytesOf 60) (by simp [DataW.weights, Tryd.underlying59])
      rw [bytes60x] at this
      simp at this
      omega
    have hex : ∀ i, i < len → ∃ xs : List (List Nat), ∃ b o ao cap, some a = some (⟨b, o, none⟩ : Addr) ∧ w.cell? ⟨b, o + i, none⟩ = some (.slice ao xs.length cap) ∧ BRow w ao xs ∧ xs.length ≤ 140737488355328 := by
      intro i hi
      rw [cells60x] at hx
      have key : ∀ i, i < len → ∃ xs : List (List Nat), ∃ ao cap, w.cell? (a.add (i * 1)) = some (.slice ao xs.length cap) ∧ BRow w ao xs ∧ xs.length ≤ 140737488355328 := by
        intro i hi
        obtain ⟨cs', hc, ht⟩ := hx i (by omega)
        obtain ⟨_, hlen, hcell⟩ := World.cells?_some hc
        obtain ⟨bo, cap, b, rfl, h1, h2⟩ := open_rowsB ht (hw i hi)
        exact ⟨b, bo, cap, by have := hcell 0 (by omega); simpa [Addr.add] using this, h1, h2⟩
      obtain ⟨_, _, _, k0, _⟩ := key 0 (by omega)
      have ha : a = ⟨a.block, a.off, none⟩ := addr_flat (by simpa [Addr.add] using k0)
      obtain ⟨xs, ao, cap, k1, k2⟩ := key i hi
      refine ⟨xs, a.block, a.off, ao, cap, by rw [← ha], ?_, k2⟩
      rw [ha, Addr.add_lit, Nat.mul_one] at k1; exact k1
    obtain ⟨R, hF1, hF2⟩ : ∃ R : List (List (List Nat)), R.length = len ∧ BRow3 w (some a) R := by
      clear hsz hx hz h hlm hmm hl hw
      induction len with
      | zero => exact ⟨[], rfl, fun j p hj => by simp at hj⟩
      | succ k ih =>
        obtain ⟨F, f1, f2⟩ := ih (fun i hi => hex i (by omega))
        obtain ⟨p, g1⟩ := hex k (by omega)
        refine ⟨F ++ [p], by simp [f1], ?_⟩
        intro j q hj
        by_cases hjk : j < F.length
        · rw [List.getElem?_append_left hjk] at hj; exact f2 j q hj
        · have hlt := (List.getElem?_eq_some_iff.1 hj).1
          have hjk2 : j = k := by simp at hlt; omega
          subst hjk2
          rw [List.getElem?_append_right (by omega), f1, Nat.sub_self] at hj
          simp at hj
          subst hj
          exact g1
    exact ⟨some a, cap, R, by rw [hF1], hF2, by rw [hF1]; unfold reachBytes at hsz; omega⟩
set_option maxRecDepth 100000 in
/-- An argument of rows of rows of bytes. -/
theorem open_rows3Arg {w : World} {base : Nat} {spare : Nat → Bool} {held : Bool} {r : Reach} {b0 : Nat} {v : Value} {d : DataW H} {ps : List MemPlace} (hval : Value.okWide Tryd.prog w r b0 59 v) (hd : DataW.Trod enc Tryd.prog w base spare held 59 v d ps) (hz : ∀ n ∈ d.weights Tryd.prog 59, n ≤ reachBytes) :
    ∃ ao n cap, ∃ R : List (List (List Nat)), v = .slice ao n cap ∧ R.length = n ∧ BRow3 w ao R := by
  obtain ⟨ao, n, cap, rfl⟩ := okWide_slice Tryd.underlying59 hval
  obtain ⟨fuel, h⟩ := hd
  have h : DataW.trod enc Tryd.prog w base spare held fuel 59 [.slice ao n cap] = some (d, ps) := h
  obtain ⟨ao', cap', R, e, hB, _⟩ := open_rows3 h hz
  simp only [List.cons.injEq, and_true, Value.slice.injEq] at e
  obtain ⟨rfl, rfl, rfl⟩ := e
  exact ⟨_, _, _, R, rfl, rfl, hB⟩
end
end Go.Proofs.YtofdijaipjkfbaaDoor
/- The bodies that were taken, as a row of slices that the law keeps. -/
namespace Go.Proofs.YtofdijaipjkfbaaDoor
open Go.RowKit Ap
/-- A row of slices of the call's own: bodies that came in. -/
def InS (w0 wr : World) (v : Value) (bs : List (List Nat)) : Prop := ∃ vs, wr.ownsRow w0.heap.size 23 1 v bs.length vs ∧ ∀ (j : Nat) (x : List Nat), bs[j]? = some x → ∃ ao c, vs[j]? = some (.slice ao x.length c) ∧ At w0 ao x
theorem InS.nil (w0 wr : World) : InS w0 wr (.slice none 0 0) [] := ⟨[], World.ownsRow_nil _ _ _ _, fun j x h => by simp at h⟩
section
variable {w0 w w' : World} {n b r F C : Nat} {s : Dv} {k k' : Dk} {D : List Nat} {W W' : List Wt} {g g' : Lg} {v : Value} {bs : List (List Nat)}
theorem InS.grown (h : InS w0 w v bs) (hg : w.grownBy w' none) : InS w0 w' v bs := by
  obtain ⟨vs, h1, h2⟩ := h
  exact ⟨vs, Fm.own_grown h1 hg, h2⟩
theorem InS.off (h : InS w0 w v bs) (hl : LgAt w0 w n b r F C s k D W g) : ∀ i, v.ownBlock = some i → ¬ (foot k W i ∨ i = b ∨ lfoot g i) := by
  obtain ⟨vs, h1, _⟩ := h
  intro i hi
  obtain ⟨c, hc⟩ := Fm.own_cells h1 hi
  have h6 := hl.dev.clear_of hc (by decide) (by decide) (by decide) (by decide)
  rintro (e | e | e | e)
  · exact h6.1 e
  · exact h6.2 e
  · have := hl.head
    rw [← e, hc] at this
    simp at this
  · obtain ⟨d, hd⟩ := Fm.own_cells hl.row e
    rw [hc] at hd
    simp at hd
theorem InS.step (h : InS w0 w v bs) (hl : LgAt w0 w n b r F C s k D W g) (q : LgW w w' b k k' W W' g g') : InS w0 w' v bs := by
  have ho := h.off hl
  obtain ⟨vs, h1, h2⟩ := h
  exact ⟨vs, owns_off h1 q.kept (fun i hi => ho i hi), h2⟩
theorem InS.form (h : InS w0 w v bs) : ∃ vo cap, v = .slice vo bs.length cap := by
  obtain ⟨vs, h1, _⟩ := h
  obtain ⟨vo, cap, e, _⟩ := own_form h1
  exact ⟨vo, cap, e⟩
theorem InS.brows {vo : Option Addr} {cap : Nat} (h : InS w0 w (.slice vo bs.length cap) bs) (hg : w0.grownBy w none) : BRows w vo bs := by
  obtain ⟨vs, h1, h2⟩ := h
  intro j x hx
  obtain ⟨ao, c, h3, h4⟩ := h2 j x hx
  rcases h1.2 with ⟨e, h0⟩ | ⟨gb, cap', cur, e, hb, hgb, hn, hm, hs, ht⟩
  · have : bs = [] := List.eq_nil_of_length_eq_zero h0
    subst this
    simp at hx
  · cases e
    refine ⟨_, ao, c, rfl, ?_, h4.grown hg⟩
    rw [Addr.add_lit, Nat.zero_add, cell_of_row w gb j cur 23 (0, 0) hgb]
    have h5 : (cur.toList.take (bs.length * 1))[j]? = some (.slice ao x.length c) := by rw [ht]; exact h3
    rw [List.getElem?_take] at h5
    split at h5
    · simpa using h5
    · cases h5
/-- One body more. -/
theorem InS.push {v' : Value} {x : List Nat} {ao : Option Addr} {c : Nat} (h : InS w0 w v bs) (hw : ∀ vs, w.ownsRow w0.heap.size 23 1 v bs.length vs → w'.ownsRow w0.heap.size 23 1 v' (bs.length + 1) (vs ++ [.slice ao x.length c])) (hat : At w0 ao x) : InS w0 w' v' (bs ++ [x]) := by
  obtain ⟨vs, h1, h2⟩ := h
  have hl : vs.length = bs.length := by have := h1.1; simpa using this
  refine ⟨vs ++ [.slice ao x.length c], by rw [List.length_append]; exact hw vs h1, ?_⟩
  intro j y hy
  by_cases hj : j < bs.length
  · rw [List.getElem?_append_left hj] at hy
    obtain ⟨ao', c', h3, h4⟩ := h2 j y hy
    exact ⟨ao', c', by rw [List.getElem?_append_left (by omega)]; exact h3, h4⟩
  · have hlt := (List.getElem?_eq_some_iff.1 hy).1
    have hj2 : j = bs.length := by simp at hlt; omega
    subst hj2
    rw [List.getElem?_append_right (by omega), Nat.sub_self] at hy
    simp at hy
    subst hy
    exact ⟨ao, c, by rw [← hl, List.getElem?_append_right (by omega), Nat.sub_self]; rfl, hat⟩
end
/-- The frames are these bodies, numbered on. -/
def Bod (E S : Int) (fs : List Fm.Fr) (bs : List (List Nat)) : Prop := fs.length = bs.length ∧ ∀ (j : Nat) (x : List Nat), bs[j]? = some x → fs[j]? = some ⟨E, S + (j : Int) + 1, ints x⟩
theorem Bod.nil (E S : Int) : Bod E S [] [] := ⟨rfl, fun j x h => by simp at h⟩
theorem Bod.snoc {E S : Int} {fs : List Fm.Fr} {bs : List (List Nat)} (h : Bod E S fs bs) {f : Fm.Fr} {x : List Nat} (hf : f = ⟨E, S + (bs.length : Int) + 1, ints x⟩) : Bod E S (fs ++ [f]) (bs ++ [x]) := by
  refine ⟨by simp [h.1], ?_⟩
  intro j y hy
  by_cases hj : j < bs.length
  · rw [List.getElem?_append_left hj] at hy
    rw [List.getElem?_append_left (by rw [h.1]; exact hj)]
    exact h.2 j y hy
  · have hlt := (List.getElem?_eq_some_iff.1 hy).1
    have hj2 : j = bs.length := by simp at hlt; omega
    subst hj2
    rw [List.getElem?_append_right (by omega), Nat.sub_self] at hy
    simp at hy
    subst hy
    rw [List.getElem?_append_right (by rw [h.1]; omega), h.1, Nat.sub_self]
    simp [hf]
end Go.Proofs.YtofdijaipjkfbaaDoor
/- WalEpochs: the walk. -/
namespace Go.Proofs.YtofdijaipjkfbaaDoor
open Go.RowKit Ap
attribute [local go_sem ↓] Go.wp_at_zero Go.wp_at_succ
theorem pN7 : pN 7 = 8 := by decide
theorem u1e : U64 1 := ⟨by decide, by decide⟩
theorem u0e : U64 0 := ⟨by decide, by decide⟩
theorem ep_drop (xs : List Nat) (h : xs.length ≤ 512) : (bytesAt (splice (zs ((8 + 1) * 64)) (1 * 64 + 0) xs) (1 * 64) (8 * 64)).drop xs.length = zs (512 - xs.length) := by
  have hz : (zs ((8 + 1) * 64)).length = 576 := List.length_replicate ..
  have hz2 : (zs (8 * 64)).length = 512 := List.length_replicate ..
  rw [bytesAt_splice _ _ _ _ _ (by omega) (by omega), bytesAt_zs _ _ _ (by omega)]
  apply List.ext_getElem?
  intro i
  rw [List.getElem?_drop, splice_get _ _ _ _ (by omega), if_neg (by omega)]
  simp only [zs, List.getElem?_replicate]
  by_cases hi : i < 512 - xs.length
  · rw [if_pos (by omega), if_pos hi]
  · rw [if_neg (by omega), if_neg hi]
/-- At an epoch's begin. -/
def EpO (w wr : World) (b r l j : Nat) : Prop := ∃ k c D g, FrS w wr 8 b r k c D g g.la [] ∧ g.l = l ∧ c ≤ 40 * j ∧ (j = 0 → D = zs ((8 + 1) * 64) ∧ g.e = 1)
/-- In an epoch. -/
structure EpI (w wr : World) (b r l : Nat) (k : Dk) (c : Nat) (D : List Nat) (E S : Int) (v : Value) (t : Nat) (g : Lg) (fs : List Fm.Fr) (bs : List (List Nat)) : Prop where
  fr : FrS w wr 8 b r k c D g S fs
  l : g.l = l
  e : g.e = E
  a : g.a = 0
  ins : InS w wr v bs
  bod : Bod E S fs bs
  few : bs.length ≤ t
theorem LgAt.away {w0 w w' : World} {n b r F C : Nat} {s : Dv} {k : Dk} {D : List Nat} {W : List Wt} {g : Lg} {T : Nat → Prop} (h : LgAt w0 w n b r F C s k D W g) (hk : Kept w w' T) (hS : ∀ i, T i → ¬ (foot k W i ∨ i = b ∨ lfoot g i) ∧ w0.heap.size ≤ i ∧ i ≠ r) : LgAt w0 w' n b r F C s k D W g :=
  ⟨h.dev.away hk (fun i hi => ⟨fun e => (hS i hi).1 (.inl e), fun e => (hS i hi).1 (.inr (.inl e)), (hS i hi).2.1⟩), h.rg.kept hk (fun e => (hS r e).2.2 rfl), hk.at h.head (fun e => (hS _ e).1 (.inr (.inr (.inl rfl)))), owns_off h.row hk (fun i hi e => (hS i e).1 (.inr (.inr (.inr hi)))), h.off, h.low, h.byt, h.fit, h.hFC, h.few, h.ue, h.ul, h.ud, h.rlow⟩
theorem FrS.away {w0 w w' : World} {N b r c : Nat} {k : Dk} {D : List Nat} {g : Lg} {S : Int} {fs : List Fm.Fr} {T : Nat → Prop} (h : FrS w0 w N b r k c D g S fs) (hk : Kept w w' T) (hS : ∀ i, T i → ¬ (foot k [] i ∨ i = b ∨ lfoot g i) ∧ w0.heap.size ≤ i ∧ i ≠ r) : FrS w0 w' N b r k c D g S fs := ⟨h.at_.away hk hS, h.hist, h.byt⟩
theorem EpI.next {w wr w' : World} {b r l : Nat} {k : Dk} {c : Nat} {D : List Nat} {E S : Int} {v : Value} {t : Nat} {g : Lg} {fs : List Fm.Fr} {bs : List (List Nat)} (h : EpI w wr b r l k c D E S v t g fs bs) (hg : wr.grownBy w' none) : EpI w w' b r l k c D E S v (t + 1) g fs bs := ⟨h.fr.then hg, h.l, h.e, h.a, h.ins.grown hg, h.bod, by have := h.few; omega⟩
theorem owns_low {w : World} {base e s : Nat} {v : Value} {n : Nat} {xs : List Value} (h : w.ownsRow base e s v n xs) {i : Nat} (hi : v.ownBlock = some i) : base ≤ i := by
  rcases h.2 with ⟨rfl, _⟩ | ⟨g, cap, cur, rfl, hb, _⟩
  · simp [Value.ownBlock] at hi
  · simp [Value.ownBlock] at hi
    omega
/-- A body more was taken. -/
theorem EpI.more {w wr w6 w7 : World} {b r l : Nat} {k : Dk} {c : Nat} {D : List Nat} {E S : Int} {v v6 v7 : Value} {t : Nat} {g : Lg} {fs : List Fm.Fr} {bs : List (List Nat)} {x : List Nat} {ao : Option Addr} {ac : Nat} {vs : List Value} {ob : Obj}
    (h : EpI w wr b r l k c D E S v t g fs bs) (f6 : FrS w w6 8 b r k c D (g.more x v6) S (fs ++ [g.fr x])) (h1 : w6.ownsRow w.heap.size 23 1 v bs.length vs) (h2 : ∀ (j : Nat) (y : List Nat), bs[j]? = some y → ∃ ao c, vs[j]? = some (.slice ao y.length c) ∧ At w ao y)
    (o7 : w7.ownsRow w.heap.size 23 1 v7 (bs.length + 1) (vs ++ [.slice ao x.length ac])) (g7 : (w6.alloc ob).grownBy w7 v.ownBlock) (hax : At w ao x) : EpI w w7 b r l k c D E S v7 (t + 1) (g.more x v6) (fs ++ [g.fr x]) (bs ++ [x]) := by
  have hI : InS w w6 v bs := ⟨vs, h1, h2⟩
  have hk : Kept w6 w7 (fun i => v.ownBlock = some i) := (Kept.new (World.grownBy_alloc w6 ob none) _).trans (Kept.of g7 (fun j e _ => e)) (fun i _ e => e)
  have hla := h.fr.hist.la
  refine ⟨f6.away hk ?_, h.l, h.e, h.a, ?_, h.bod.snoc ?_, by rw [List.length_append]; have := h.few; simp; omega⟩
  · intro i hi
    refine ⟨hI.off f6.at_ i hi, owns_low h1 hi, ?_⟩
    rintro rfl
    obtain ⟨cs, hcs⟩ := Fm.own_cells h1 hi
    have := f6.at_.rg.head
    rw [hcs] at this
    simp at this
  · exact InS.push (w := w6) (v := v) hI (fun vs' h' => by
      have : vs' = vs := by
        rcases h'.2 with ⟨e1, e2⟩ | ⟨g1, c1, u1, e1, _, e3, _, _, _, e7⟩
        · have a1 := h'.1; have a2 := h1.1
          rw [e2] at a1 a2
          have b1 : vs' = [] := List.eq_nil_of_length_eq_zero (by simpa using a1)
          have b2 : vs = [] := List.eq_nil_of_length_eq_zero (by simpa using a2)
          rw [b1, b2]
        · rcases h1.2 with ⟨f1, f2⟩ | ⟨g2, c2, u2, f1, _, f3, _, _, _, f7⟩
          · rw [e1] at f1; cases f1
          · rw [e1] at f1
            cases f1
            rw [e3] at f3
            cases f3
            rw [← e7, ← f7]
      rw [this]; exact o7) hax
  · show (⟨g.e, g.la + 1, ints x⟩ : Fm.Fr) = _
    rw [h.e, hla, h.bod.1]
/-- What the end of an epoch finds. -/
theorem ep_found {w wr : World} {b r c : Nat} {k : Dk} {D : List Nat} {g : Lg} {E S : Int} {fs : List Fm.Fr} {bs : List (List Nat)} {ys : List Fm.El} (h : FrS w wr 8 b r k c D g S fs) (hb : g.bs = []) (he : g.e = E) (hB : Bod E S fs bs) (hS : 0 ≤ S) (hy : Fm.frs ys = Fm.rowF E S (ints (bytesAt D (1 * 64) (8 * 64)))) :
    bs.length ≤ ys.length ∧ ys.length ≤ 1000 ∧ S + (bs.length : Int) < 18446744073709551616 ∧ 0 ≤ S ∧ ∀ (j : Nat) (x : List Nat), bs[j]? = some x → ∃ y : Fm.El, ys[j]? = some y ∧ y.f = ⟨E, S + (j : Int) + 1, ints x⟩ := by
  have hX := bytes_bytesAt h.byt (1 * 64) (8 * 64)
  have hp := h.hist.pre hb hX
  rw [he, ← hy] at hp
  have hl := hp.length_le
  rw [Fm.frs_length, hB.1] at hl
  have h1 := Fm.fend_len (Fm.rowF E S (ints (bytesAt D (1 * 64) (8 * 64))))
  have h2 := Fm.rowF_end E _ S (ints (bytesAt D (1 * 64) (8 * 64))) (Nat.le_refl _) (ints_byt hX)
  rw [ints_length, h.xlen] at h2
  rw [← hy, Fm.frs_length] at h1
  have h3 := h.at_.ul
  have h4 := h.hist.la
  rw [hB.1] at h4
  have h5 := h.hist
  refine ⟨hl, by rw [hy] at h1; omega, by have := h3.2; omega, hS, ?_⟩
  · intro j x hx
    have h6 := hB.2 j x hx
    obtain ⟨rest, hr⟩ := hp
    have h7 : (Fm.frs ys)[j]? = some ⟨E, S + (j : Int) + 1, ints x⟩ := by
      rw [← hr, List.getElem?_append_left (List.getElem?_eq_some_iff.1 h6).1]; exact h6
    unfold Fm.frs at h7
    rw [List.getElem?_map] at h7
    cases hyj : ys[j]? with
    | none => rw [hyj] at h7; simp at h7
    | some y => rw [hyj] at h7; simp at h7; exact ⟨y, rfl, h7⟩
end Go.Proofs.YtofdijaipjkfbaaDoor
