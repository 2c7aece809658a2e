/- Texts joined: Aw, Ld, Nn, Nl. -/
import Derived.Test.YtofdijaipjkfbaaDoorJnAt
import Derived.Test.YtofdijaipjkfbaaDoorJnAh
import Derived.Test.YtofdijaipjkfbaaDoorJnAq
/- awake. -/
namespace Go.Proofs.YtofdijaipjkfbaaDoor
open Go.RowKit Ap
attribute [local go_sem ↓] Go.wp_at_zero Go.wp_at_succ
theorem pN1 : pN 1 = 2 := by decide
theorem u3 : U64 3 := ⟨by decide, by decide⟩
theorem u7 : U64 7 := ⟨by decide, by decide⟩
theorem aw_at {w : World} {A : Nat} {fr : Nat × Nat} {xs : List Nat} (h : w.heap[A]? = some (.cells (bv xs).toArray 5 fr)) : At w (some ⟨A, 0, none⟩) xs := by
  intro j u hu
  have e : (⟨A, 0, none⟩ : Addr).add j = ⟨A, j, none⟩ := by unfold Addr.add; split <;> simp_all
  exact ⟨_, rfl, by rw [e, cell_row h j]; exact bv_get _ _ _ hu⟩
theorem aw_ap (l : Nat) : apC 2 (Lg.new l 3 7) 3 = 0 := by simp [apC, fitsB, Lg.new, Lg.end_]
theorem aw_drop (xs : List Nat) (h : xs.length ≤ 128) : (bytesAt (splice (zs ((2 + 1) * 64)) (1 * 64 + 0) xs) (1 * 64) (2 * 64)).drop xs.length = zs (128 - xs.length) := by
  have hz : (zs ((2 + 1) * 64)).length = 192 := List.length_replicate ..
  have hz2 : (zs (2 * 64)).length = 128 := List.length_replicate ..
  rw [bytesAt_splice _ _ _ _ _ (by omega) (by omega), bytesAt_zs _ _ _ (by omega)]
  apply List.ext_getElem?
  intro i
  rw [List.getElem?_drop, splice_get _ _ _ _ (by omega), if_neg (by omega)]
  simp only [zs, List.getElem?_replicate]
  by_cases hi : i < 128 - xs.length
  · rw [if_pos (by omega), if_pos hi]
  · rw [if_neg (by omega), if_neg hi]
set_option maxRecDepth 20000 in
set_option maxHeartbeats 8000000 in
theorem awake_any (w : World) (hT : Fm.Cr.Tab w) (hw0 : 0 < w.heap.size) : Calls Tryd.prog 18 #[] w fun e w' => e = .returned (.bool true) ∧ w.grownBy w' none := by
  have HT := hide (And.intro hT hw0)
  clear hT hw0
  go_enter Tryd.func18, Tryd.ntmps18
  go_wp2_with fail
  refine (place_any w w 1 (grown_refl _ _)).mono ?_
  rintro e w1 ⟨p, r, qr, rfl, p1⟩
  rw [pN1] at p1
  have P1 := hide p1
  clear p1
  go_wp2_with fail
  refine (sNew P1.out (Nat.le_refl _) (by omega) (by omega) 3 7 u3 u7).mono ?_
  rintro e w2 ⟨l, rfl, h2, g2⟩
  have H2 := hide h2
  clear h2 g2 P1
  go_wp2_with fail
  have g3 := World.grownBy_alloc w2 (.cells #[.int .u8 1, .int .u8 2, .int .u8 3] 5) none
  have n3 : (w2.alloc (.cells #[.int .u8 1, .int .u8 2, .int .u8 3] 5)).heap[w2.heap.size]? = some (.cells (bv [1, 2, 3]).toArray 5 (0, 0)) := heap_alloc_new w2 _
  have H3 := hide (And.intro (H2.out.then g3) n3)
  clear g3 n3 H2
  generalize w2.alloc (.cells #[.int .u8 1, .int .u8 2, .int .u8 3] 5) = w3 at *
  generalize w2.heap.size = A at *
  have ha := sAppend H3.out.1 HT.out.1 HT.out.2 (some ⟨A, 0, none⟩) 3 3 [1, 2, 3] rfl (aw_at H3.out.2) (by intro x hx; simp at hx; omega) (Nat.le_refl _) (by decide)
  rw [aw_ap l] at ha
  refine ha.mono ?_
  clear ha
  rintro e w4 (⟨h1, _⟩ | ⟨-, rfl, v4, h4, -⟩)
  · exact absurd rfl h1
  have e8 : (Lg.new l 3 7).la + 1 = 8 := rfl
  rw [e8]
  have H4 := hide h4
  clear h4 H3
  go_wp2_with fail
  refine (sFlush H4.out (by omega)).mono ?_
  rintro e w5 ⟨rfl, k5, c5, g5, h5, c5', f5, -⟩
  have hl : g5.l = l := f5.l
  have hh : Fm.rowF 3 7 (ints (bytesAt (splice (zs ((2 + 1) * 64)) (1 * 64 + ((Lg.new l 3 7).more [1, 2, 3] v4).a) ((Lg.new l 3 7).more [1, 2, 3] v4).bs) (1 * 64) (2 * 64))) = [⟨3, 8, [1, 2, 3]⟩] := by
    have he : g5.e = 3 := f5.e
    have hb : ((Lg.new l 3 7).more [1, 2, 3] v4).bs.length = 25 := by show ([] ++ Fm.nats ((Lg.new l 3 7).fr [1, 2, 3]).out).length = 25; rw [List.nil_append, Fm.nats_length, fr_len]; rfl
    have ha : g5.a = ((Lg.new l 3 7).more [1, 2, 3] v4).bs.length := by rw [f5.a]; show 0 + _ = _; omega
    have := h5.hist.only f5.bs (by rw [he]; decide) (128 - ((Lg.new l 3 7).more [1, 2, 3] v4).bs.length) (by rw [ha]; exact aw_drop _ (by rw [hb]; omega))
    rw [he] at this
    exact this
  have HE : Hid (g5.end_ = 25 ∧ g5.du = 8) := by
    refine ⟨?_, f5.du⟩
    rw [f5.end_, H4.out.hist.end_]
    rfl
  have H5 := hide (And.intro h5 (And.intro c5' hh))
  clear h5 c5' f5 hh H4
  generalize splice (zs ((2 + 1) * 64)) (1 * 64 + ((Lg.new l 3 7).more [1, 2, 3] v4).a) ((Lg.new l 3 7).more [1, 2, 3] v4).bs = D5 at *
  go_wp2_with fail
  have hs := sScan H5.out.1 (by have := H5.out.2.1; omega) HT.out.1 3 7 u7
  rw [H5.out.2.2] at hs
  refine hs.mono ?_
  clear hs
  rintro e w6 ⟨v, ys, c6, rfl, h7, h8, h9, -, -⟩
  obtain ⟨ao, cap, rfl, hr, hcap⟩ := h8.read
  have hlen : ys.length = 1 := by have := congrArg List.length h7; rw [Fm.frs_length] at this; simpa using this
  obtain ⟨y, rfl⟩ : ∃ y, ys = [y] := List.length_eq_one_iff.1 hlen
  have hy : y.f = ⟨3, 8, [1, 2, 3]⟩ := by simpa [Fm.frs] using h7
  obtain ⟨gf, rfl, hf⟩ := hr 0 y rfl
  obtain ⟨bo, bc, hv, hbody⟩ := hf.body
  have c1 := hf.c1
  have c2 := hf.c2
  rw [hv] at c2
  rw [hy] at c1 c2 hbody
  simp only [Nat.zero_mul, Nat.zero_add, List.length_cons, List.length_nil] at c1 c2 hbody hcap
  have H7 := hide (And.intro h9 hbody)
  clear h7 h8 h9 hr hlen hf hv hbody hy
  have hfe : ((Fm.fend [⟨3, 8, [1, 2, 3]⟩] : Nat) : Int) = 25 := rfl
  rw [hfe]
  simp only [List.length_cons, List.length_nil]
  clear hfe
  go_wp2_with fail
  have g8 := World.grownBy_alloc w6 (.cells #[.int .u8 1, .int .u8 2, .int .u8 3] 5) none
  have n8 : (w6.alloc (.cells #[.int .u8 1, .int .u8 2, .int .u8 3] 5)).heap[w6.heap.size]? = some (.cells (bv [1, 2, 3]).toArray 5 (0, 0)) := heap_alloc_new w6 _
  have H8 := hide (And.intro (H7.out.1.then g8) (And.intro (H7.out.2.kept g8 (fun _ _ e => by cases e)) n8))
  clear g8 n8 H7 c1 c2
  generalize w6.alloc (.cells #[.int .u8 1, .int .u8 2, .int .u8 3] 5) = w8 at *
  generalize w6.heap.size = A8 at *
  refine (Fm.same_eq bo (some ⟨A8, 0, none⟩) 3 bc 3 [1, 2, 3] w8 rfl H8.out.2.1 (At.ints (xs := [1, 2, 3]) (aw_at H8.out.2.2)) (by omega)).mono ?_
  rintro e w9 ⟨rfl, g9⟩
  have H9 := hide (H8.out.1.then g9)
  clear g9 H8
  have hu := lUsed_at H9.out.at_
  rw [hl, HE.out.1] at hu
  go_wp2_with fail
  refine hu.mono ?_
  clear hu
  rintro e w10 ⟨rfl, q, rfl⟩
  have H10 := hide (H9.out.then (grown_drewN w9 q none))
  clear H9
  generalize w9.drewN q = w10 at *
  have hu := lDurable_at H10.out.at_
  rw [hl, HE.out.2] at hu
  go_wp2_with fail
  refine hu.mono ?_
  clear hu
  rintro e w11 ⟨rfl, rfl⟩
  go_wp2
  go_ret
  exact ⟨rfl, H10.out.at_.grown0⟩
end Go.Proofs.YtofdijaipjkfbaaDoor
/- Arguments opened: rows of ints. -/
namespace Go.Proofs.YtofdijaipjkfbaaDoor
open Go.ChangeShapes Go.WideShapes Go.ChangeAt Go.RowKit Go.Deep
theorem cells3 : Tryd.prog.cellsOf 3 = 1 := by kernel_rfl
variable {H : Type} {enc : TypeId × Value → H}
set_option maxRecDepth 100000 in
/-- An argument that is a slice of int: its numbers. -/
theorem open_zArg {w : World} {base : Nat} {spare : Nat → Bool} {held : Bool} {r : Reach} {b0 : Nat} {v : Value} {d : DataW H} {ps : List MemPlace} (hval : Value.okWide Tryd.prog w r b0 55 v) (hd : DataW.Trod enc Tryd.prog w base spare held 55 v d ps) :
    ∃ ao n cap, ∃ xs : List Int, v = .slice ao n cap ∧ xs.length = n ∧ (∀ j u, xs[j]? = some u → ∃ a, ao = some a ∧ w.cell? (a.add j) = some (.int .i64 u)) := by
  obtain ⟨ao, n, cap, rfl⟩ := okWide_slice Tryd.underlying55 hval
  obtain ⟨fuel, hf⟩ := hd
  rcases open_ints Tryd.underlying55 Tryd.underlying3 cells3 hf with ⟨hcs, _⟩ | ⟨a, len, cap', zs, hcs, _, hl, hm, hz, hx, hcell, hwf⟩
  · simp [Value.cells] at hcs
    obtain ⟨rfl, rfl, rfl⟩ := hcs
    exact ⟨none, 0, 0, [], rfl, rfl, (fun j u h => by simp at h)⟩
  · simp [Value.cells] at hcs
    obtain ⟨rfl, rfl, rfl⟩ := hcs
    have hzl : n ≤ zs.length := by rw [hz]; split <;> omega
    refine ⟨some a, n, cap, zs.take n, rfl, by simp; omega, ?_⟩
    intro j u hu
    rw [List.getElem?_take] at hu
    split at hu
    · rename_i hj
      have hj2 : j < zs.length := by omega
      have hc := hcell j hj2
      refine ⟨a, rfl, ?_⟩
      rw [hc]
      simp [List.getD_eq_getElem?_getD, hu]
    · cases hu
end Go.Proofs.YtofdijaipjkfbaaDoor
/- No region, no device. -/
namespace Go.Proofs.YtofdijaipjkfbaaDoor
open Go.RowKit Ap
attribute [local go_sem ↓] Go.wp_at_zero Go.wp_at_succ

theorem NoRegion.grown {w w' : World} {p : Option Addr} (h : NoRegion w p) (hg : w.grownBy w' none) : NoRegion w' p := h.imp id (fun ⟨a, e, hc⟩ => ⟨a, e, hg.cell hc (by simp)⟩)
section
variable {w : World} {p : Option Addr}
set_option maxHeartbeats 400000 in
theorem gmay_none (h : NoRegion w p) (at_ m : Int) : Calls Tryd.prog 52 #[.pointer p, .int .i64 at_, .int .i64 m] w fun e w' => e = .returned (.int .i64 1) ∧ w' = w := by
  have H := hide (gnone_no p w h)
  clear h
  go_enter Tryd.func52, Tryd.ntmps52
  go_wp2_with fail
  refine H.out.mono ?_
  rintro e w' ⟨rfl, rfl⟩
  go_wp2
  go_ret
  exact ⟨rfl, rfl⟩
set_option maxHeartbeats 400000 in
theorem gRead_none (h : NoRegion w p) (at_ m : Int) : Calls Tryd.prog 32 #[.pointer p, .int .i64 at_, .int .i64 m] w fun e w' => e = .returned (.tuple #[.slice none 0 0, .int .i64 1]) ∧ w.grownBy w' none := by
  have G1 := hide (World.grownBy_alloc w (.cells #[.pointer p] 26) none)
  have N1 : Hid ((w.alloc (.cells #[.pointer p] 26)).heap[w.heap.size]? = some (.cells #[.pointer p] 26 (0, 0))) := heap_alloc_new w _
  have c0 : (w.alloc (.cells #[.pointer p] 26)).cell? ⟨w.heap.size, 0, none⟩ = some (.pointer p) := cell_row (l := [_]) N1.out 0
  have H := hide (gmay_none (h.grown G1.out) at_ m)
  clear h
  go_enter Tryd.func32, Tryd.ntmps32
  go_wp2_with fail
  refine H.out.mono ?_
  rintro e w' ⟨rfl, rfl⟩
  go_wp2
  go_ret2
  exact ⟨rfl, G1.out⟩
set_option maxHeartbeats 400000 in
theorem gWrite_none (h : NoRegion w p) (at_ : Int) : Calls Tryd.prog 50 #[.pointer p, .int .i64 at_, .slice none 0 0] w fun e w' => e = .returned (.int .i64 1) ∧ w.grownBy w' none := by
  have g1 := World.grownBy_alloc w (.cells #[.pointer p] 26) none
  have g2 := World.grownBy_alloc (w.alloc (.cells #[.pointer p] 26)) (.cells #[.slice none 0 0] 23) none
  have z1 : (w.alloc (.cells #[.pointer p] 26)).heap.size = w.heap.size + 1 := Array.size_push ..
  have n1 : (w.alloc (.cells #[.pointer p] 26)).heap[w.heap.size]? = some (.cells #[.pointer p] 26 (0, 0)) := heap_alloc_new w _
  have n2 := heap_alloc_new (w.alloc (.cells #[.pointer p] 26)) (.cells #[.slice none 0 0] 23)
  rw [z1] at n2
  have n1' := (g2.block _ (row_lt n1) (by simp)).trans n1
  have G1 := hide (grown_trans g1 g2)
  have c0 : ((w.alloc (.cells #[.pointer p] 26)).alloc (.cells #[.slice none 0 0] 23)).cell? ⟨w.heap.size, 0, none⟩ = some (.pointer p) := cell_row (l := [_]) n1' 0
  have c1 : ((w.alloc (.cells #[.pointer p] 26)).alloc (.cells #[.slice none 0 0] 23)).cell? ⟨w.heap.size + 1, 0, none⟩ = some (.slice none 0 0) := cell_row (l := [_]) n2 0
  have H := hide (gmay_none (h.grown G1.out) at_ 0)
  clear h g1 g2 z1 n1 n2 n1'
  go_enter Tryd.func50, Tryd.ntmps50
  go_wp2_with fail
  refine H.out.mono ?_
  rintro e w' ⟨rfl, rfl⟩
  go_wp2
  go_ret
  exact ⟨rfl, G1.out⟩
set_option maxHeartbeats 400000 in
theorem gSync_none (h : NoRegion w p) : Calls Tryd.prog 51 #[.pointer p] w fun e w' => e = .returned (.int .i64 1) ∧ w' = w := by
  have H := hide (gnone_no p w h)
  clear h
  go_enter Tryd.func51, Tryd.ntmps51
  go_wp2_with fail
  refine H.out.mono ?_
  rintro e w' ⟨rfl, rfl⟩
  go_wp2
  go_ret
  exact ⟨rfl, rfl⟩
set_option maxHeartbeats 400000 in
theorem gBytes_none (h : NoRegion w p) : Calls Tryd.prog 19 #[.pointer p] w fun e w' => e = .returned (.int .i64 0) ∧ w' = w := by
  have H := hide (gnone_no p w h)
  clear h
  go_enter Tryd.func19, Tryd.ntmps19
  go_wp2_with fail
  refine H.out.mono ?_
  rintro e w' ⟨rfl, rfl⟩
  go_wp2
  go_ret
  exact ⟨rfl, rfl⟩
set_option maxHeartbeats 400000 in
theorem gCount_none (h : NoRegion w p) : Calls Tryd.prog 22 #[.pointer p] w fun e w' => e = .returned (.int .i64 0) ∧ w' = w := by
  have H := hide (gnone_no p w h)
  clear h
  go_enter Tryd.func22, Tryd.ntmps22
  go_wp2_with fail
  refine H.out.mono ?_
  rintro e w' ⟨rfl, rfl⟩
  go_wp2
  go_ret
  exact ⟨rfl, rfl⟩
end
/-- No device: nil, or none that was made. -/
def NoDev (w : World) (p : Option Addr) : Prop := p = none ∨ ∃ b, p = some ⟨b, 0, none⟩ ∧ w.cell? ⟨b, 1, none⟩ = some (.bool false)
theorem NoDev.is {w : World} {p : Option Addr} (h : NoDev w p) : Calls Tryd.prog 63 #[.pointer p] w fun e w' => e = .returned (.bool true) ∧ w' = w := by
  rcases h with rfl | ⟨b, rfl, hc⟩
  · exact dnone_nil w
  · exact dnone_at b false w hc
set_option maxHeartbeats 400000 in
theorem dsectors_none {w : World} {p : Option Addr} (h : NoDev w p) : Calls Tryd.prog 59 #[.pointer p] w fun e w' => e = .returned (.int .i64 0) ∧ w' = w := by
  have H := hide h.is
  clear h
  go_enter Tryd.func59, Tryd.ntmps59
  go_wp2_with fail
  refine H.out.mono ?_
  rintro e w' ⟨rfl, rfl⟩
  go_wp2
  go_ret
  exact ⟨rfl, rfl⟩
set_option maxHeartbeats 1000000 in
theorem gnew_none {w : World} {p : Option Addr} (h : NoDev w p) (F C : Int) : Calls Tryd.prog 36 #[.pointer p, .agg #[.int .i64 F, .int .i64 C]] w fun e w' => e = .returned (.tuple #[.pointer none, .int .i64 1]) ∧ w.grownBy w' none := by
  have G1 := hide (World.grownBy_alloc w (.cells #[.int .i64 F, .int .i64 C] 43) none)
  have H : Hid (Calls Tryd.prog 59 #[.pointer p] (w.alloc (.cells #[.int .i64 F, .int .i64 C] 43)) fun e w' => e = .returned (.int .i64 0) ∧ w' = w.alloc (.cells #[.int .i64 F, .int .i64 C] 43)) := dsectors_none (h.imp id (fun ⟨b, e, hc⟩ => ⟨b, e, G1.out.cell hc (by simp)⟩))
  clear h
  go_enter Tryd.func36, Tryd.ntmps36
  go_wp2_with fail
  refine H.out.mono ?_
  rintro e w' ⟨rfl, rfl⟩
  go_wp2
  go_ret2
  exact ⟨rfl, G1.out⟩
end Go.Proofs.YtofdijaipjkfbaaDoor
/- No log: nil, or one of no region; New and Scan of no region. -/
namespace Go.Proofs.YtofdijaipjkfbaaDoor
open Go.RowKit Ap
attribute [local go_sem ↓] Go.wp_at_zero Go.wp_at_succ
/-- No log. -/
def NoLog (w : World) (p : Option Addr) : Prop := p = none ∨ ∃ l, p = some ⟨l, 0, none⟩ ∧ w.cell? ⟨l, 2, none⟩ = some (.pointer none)
theorem NoLog.grown {w w' : World} {p : Option Addr} (h : NoLog w p) (hg : w.grownBy w' none) : NoLog w' p := h.imp id (fun ⟨l, e, hc⟩ => ⟨l, e, hg.cell hc (by simp)⟩)
set_option maxHeartbeats 400000 in
theorem nlnone {w : World} {p : Option Addr} (h : NoLog w p) : Calls Tryd.prog 25 #[.pointer p] w fun e w' => e = .returned (.bool true) ∧ w' = w := by
  rcases h with rfl | ⟨l, rfl, c2⟩
  · go_enter Tryd.func25, Tryd.ntmps25
    go_wp2
    go_ret
    exact ⟨rfl, rfl⟩
  · go_enter Tryd.func25, Tryd.ntmps25
    go_wp2
    go_ret
    exact ⟨rfl, rfl⟩
set_option maxHeartbeats 400000 in
theorem nlAppend {w : World} {p : Option Addr} (h : NoLog w p) : Calls Tryd.prog 6 #[.pointer p, .slice none 0 0] w fun e w' => e = .returned (.tuple #[.int .u64 0, .int .i64 1]) ∧ w' = w := by
  have H := hide (nlnone h)
  clear h
  go_enter Tryd.func6, Tryd.ntmps6
  go_wp2_with fail
  refine H.out.mono ?_
  rintro e w' ⟨rfl, rfl⟩
  go_wp2
  go_ret2
  exact ⟨rfl, rfl⟩
set_option maxHeartbeats 400000 in
theorem nlFlush {w : World} {p : Option Addr} (h : NoLog w p) : Calls Tryd.prog 7 #[.pointer p] w fun e w' => e = .returned (.int .i64 1) ∧ w' = w := by
  have H := hide (nlnone h)
  clear h
  go_enter Tryd.func7, Tryd.ntmps7
  go_wp2_with fail
  refine H.out.mono ?_
  rintro e w' ⟨rfl, rfl⟩
  go_wp2
  go_ret
  exact ⟨rfl, rfl⟩
set_option maxHeartbeats 400000 in
theorem nlReset {w : World} {p : Option Addr} (h : NoLog w p) (x : Int) : Calls Tryd.prog 8 #[.pointer p, .int .u64 x] w fun e w' => e = .returned (.int .i64 1) ∧ w' = w := by
  have H := hide (nlnone h)
  clear h
  go_enter Tryd.func8, Tryd.ntmps8
  go_wp2_with fail
  refine H.out.mono ?_
  rintro e w' ⟨rfl, rfl⟩
  go_wp2
  go_ret
  exact ⟨rfl, rfl⟩
set_option maxHeartbeats 400000 in
theorem nlFits {w : World} {p : Option Addr} (h : NoLog w p) (x : Int) : Calls Tryd.prog 9 #[.pointer p, .int .i64 x] w fun e w' => e = .returned (.bool false) ∧ w' = w := by
  have H := hide (nlnone h)
  clear h
  go_enter Tryd.func9, Tryd.ntmps9
  go_wp2_with fail
  refine H.out.mono ?_
  rintro e w' ⟨rfl, rfl⟩
  go_wp2
  go_ret
  exact ⟨rfl, rfl⟩
set_option maxHeartbeats 400000 in
theorem nlEpoch {w : World} {p : Option Addr} (h : NoLog w p) : Calls Tryd.prog 10 #[.pointer p] w fun e w' => e = .returned (.int .u64 0) ∧ w' = w := by
  have H := hide (nlnone h)
  clear h
  go_enter Tryd.func10, Tryd.ntmps10
  go_wp2_with fail
  refine H.out.mono ?_
  rintro e w' ⟨rfl, rfl⟩
  go_wp2
  go_ret
  exact ⟨rfl, rfl⟩
set_option maxHeartbeats 400000 in
theorem nlLast {w : World} {p : Option Addr} (h : NoLog w p) : Calls Tryd.prog 11 #[.pointer p] w fun e w' => e = .returned (.int .u64 0) ∧ w' = w := by
  have H := hide (nlnone h)
  clear h
  go_enter Tryd.func11, Tryd.ntmps11
  go_wp2_with fail
  refine H.out.mono ?_
  rintro e w' ⟨rfl, rfl⟩
  go_wp2
  go_ret
  exact ⟨rfl, rfl⟩
set_option maxHeartbeats 400000 in
theorem nlDurable {w : World} {p : Option Addr} (h : NoLog w p) : Calls Tryd.prog 12 #[.pointer p] w fun e w' => e = .returned (.int .u64 0) ∧ w' = w := by
  have H := hide (nlnone h)
  clear h
  go_enter Tryd.func12, Tryd.ntmps12
  go_wp2_with fail
  refine H.out.mono ?_
  rintro e w' ⟨rfl, rfl⟩
  go_wp2
  go_ret
  exact ⟨rfl, rfl⟩
set_option maxHeartbeats 400000 in
theorem nlUsed {w : World} {p : Option Addr} (h : NoLog w p) : Calls Tryd.prog 13 #[.pointer p] w fun e w' => e = .returned (.int .i64 0) ∧ w' = w := by
  have H := hide (nlnone h)
  clear h
  go_enter Tryd.func13, Tryd.ntmps13
  go_wp2_with fail
  refine H.out.mono ?_
  rintro e w' ⟨rfl, rfl⟩
  go_wp2
  go_ret
  exact ⟨rfl, rfl⟩
set_option maxHeartbeats 400000 in
theorem nlRoom {w : World} {p : Option Addr} (h : NoLog w p) : Calls Tryd.prog 14 #[.pointer p] w fun e w' => e = .returned (.int .i64 0) ∧ w' = w := by
  have H := hide (nlnone h)
  clear h
  go_enter Tryd.func14, Tryd.ntmps14
  go_wp2_with fail
  refine H.out.mono ?_
  rintro e w' ⟨rfl, rfl⟩
  go_wp2
  go_ret
  exact ⟨rfl, rfl⟩
set_option maxHeartbeats 400000 in
theorem nlNew {w : World} {p : Option Addr} (h : NoRegion w p) (E S : Int) : Calls Tryd.prog 15 #[.pointer p, .int .u64 E, .int .u64 S] w fun e w' => e = .returned (.tuple #[.pointer none, .int .i64 1]) ∧ w' = w := by
  have H := hide (gBytes_none h)
  clear h
  go_enter Tryd.func15, Tryd.ntmps15
  go_wp2_with fail
  refine H.out.mono ?_
  rintro e w' ⟨rfl, rfl⟩
  go_wp2
  go_ret2
  exact ⟨rfl, rfl⟩
set_option maxHeartbeats 400000 in
theorem nlScan {w : World} {p : Option Addr} (h : NoRegion w p) (E S : Int) : Calls Tryd.prog 16 #[.pointer p, .int .u64 E, .int .u64 S] w fun e w' => e = .returned (.tuple #[.slice none 0 0, .int .i64 0, .int .i64 1]) ∧ w.grownBy w' none := by
  have H := hide (gBytes_none h)
  have H2 := hide (gRead_none h 0 0)
  clear h
  go_enter Tryd.func16, Tryd.ntmps16
  go_wp2_with fail
  refine H.out.mono ?_
  rintro e w' ⟨rfl, rfl⟩
  go_wp2_with fail
  refine H2.out.mono ?_
  rintro e w2 ⟨rfl, g2⟩
  have G2 := hide g2
  clear g2
  go_wp2
  refine bodyPost_ret (results_tmp3 rfl _ _ _) rfl ?_
  exact ⟨rfl, G2.out⟩
/-- A log that was made at w writes nothing of what was there. -/
theorem LgM.since {w w1 w2 : World} {g g' : Lg} (m : LgM w1 w2 g g') (hg : w.grownBy w1 none) (hf : ∀ i, lfoot g i → w.heap.size ≤ i) : w.grownBy w2 none ∧ ∀ i, lfoot g' i → w.heap.size ≤ i := by
  refine ⟨((Kept.new hg (lfoot g)).trans m.kept (fun i _ e => e)).grown (fun i hi hs => by have := hf i hs; omega), ?_⟩
  intro i hi
  rcases m.foot hi with e | e
  · exact hf i e
  · exact Nat.le_trans hg.size e
end Go.Proofs.YtofdijaipjkfbaaDoor
