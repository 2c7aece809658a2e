/- BitsGoes, walked. -/
import Derived.Test.YtajdgkbeenalkaaDoorGoes0
import Derived.Test.YtajdgkbeenalkaaDoorTwo
namespace Go.Proofs.YtajdgkbeenalkaaDoor
open Go.RowKit Go.Shelf

attribute [local go_sem] Oper.semAt_some
attribute [local go_sem ↓] Go.wp_at_zero Go.wp_at_succ

theorem pick300 (x : Int) (w : World) : Calls Tryd.prog 12 #[.int .i64 x, .int .i64 300] w fun e w' => e = .returned (.int .i64 (x % 300)) ∧ w' = w := pick_any x 300 300 w rfl (by decide) (by decide)

theorem box_ne {w : World} {B b g : Nat} {t : TypeId} {v : Value} {L : List Bool} (h : Boxed w B t v) (k : SetAt w b g L) (ht : t ≠ 78) : B ≠ g := by
  rintro rfl
  obtain ⟨W, cap, cur, h1, h2, h3⟩ := k
  have h' : w.heap[B]? = some (.cells #[v] t (0, 0)) := h
  rw [h'] at h2
  simp at h2
  exact ht h2.2

/-- Block k lies below N and is neither x nor y. -/
def Fr (N x y k : Nat) : Prop := k < N ∧ k ≠ x ∧ k ≠ y
/-- All that the loops over the iterators leave as it is: the variables, the iterators' sets, the copy, the two lists that were told. -/
structure GS (N x y : Nat) (w0 w : World) (bl bs bw bt b B1 b1 g1 B2 b2 g2 b4 g4 : Nat) (left : Int) (L : List Bool) (vw vt : Value) : Prop where
  lbox : Boxed w bl 3 (.int .i64 left)
  sbox : Boxed w bs 24 (.pointer (some ⟨b, 0, none⟩))
  wbox : Boxed w bw 57 vw
  tbox : Boxed w bt 57 vt
  i1 : Boxed w B1 24 (.pointer (some ⟨b1, 0, none⟩))
  s1 : SetAt w b1 g1 L
  i2 : Boxed w B2 24 (.pointer (some ⟨b2, 0, none⟩))
  s2 : SetAt w b2 g2 L
  s4 : SetAt w b4 g4 L
  wrow : w.ownsRow 0 3 1 vw (allL L).length (intsV (allL L))
  trow : w.ownsRow 0 3 1 vt (flat (gapsL L)).length (intsV (flat (gapsL L)))
  tab : Tab w
  grown : w0.grownBy w none
  fr : Fr N x y bl ∧ Fr N x y bs ∧ Fr N x y bw ∧ Fr N x y bt ∧ Fr N x y B1 ∧ Fr N x y b1 ∧ Fr N x y g1 ∧ Fr N x y B2 ∧ Fr N x y b2 ∧ Fr N x y g2 ∧ Fr N x y b4 ∧ Fr N x y g4 ∧ Fr N x y 0
  frw : ∀ k, vw.ownBlock = some k → Fr N x y k
  frt : ∀ k, vt.ownBlock = some k → Fr N x y k
  lo : w0.heap.size ≤ x ∧ w0.heap.size ≤ y ∧ w0.heap.size ≤ N
  le : N ≤ w.heap.size
section
variable {N x y D D2 : Nat} {w0 w w' : World} {bl bs bw bt b B1 b1 g1 B2 b2 g2 b4 g4 : Nat} {left : Int} {L : List Bool} {vw vt : Value}
theorem GS.but2 (h : GS N x y w0 w bl bs bw bt b B1 b1 g1 B2 b2 g2 b4 g4 left L vw vt) (hB : But2 N x y w w') : GS N x y w0 w' bl bs bw bt b B1 b1 g1 B2 b2 g2 b4 g4 left L vw vt := by
  obtain ⟨f1, f2, f3, f4, f5, f6, f7, f8, f9, f10, f11, f12, f13⟩ := h.fr
  refine ⟨Boxed.but2 h.lbox hB f1, Boxed.but2 h.sbox hB f2, Boxed.but2 h.wbox hB f3, Boxed.but2 h.tbox hB f4, Boxed.but2 h.i1 hB f5, h.s1.but2 hB f6 f7, Boxed.but2 h.i2 hB f8, h.s2.but2 hB f9 f10, h.s4.but2 hB f11 f12, own_but2 h.wrow hB h.frw, own_but2 h.trow hB h.frt, h.tab.but2 hB f13, ?_, h.fr, h.frw, h.frt, h.lo, Nat.le_trans h.le hB.size⟩
  obtain ⟨l1, l2, l3⟩ := h.lo
  exact ⟨hB.os.trans h.grown.os, hB.tape.trans h.grown.tape, hB.output.trans h.grown.output, Nat.le_trans h.grown.size hB.size, fun k hk _ => (hB.block k (by omega) (by omega) (by omega)).trans (h.grown.block k hk (by simp))⟩
theorem GS.kept (h : GS N x y w0 w bl bs bw bt b B1 b1 g1 B2 b2 g2 b4 g4 left L vw vt) (hg : w.grownBy w' none) : GS N x y w0 w' bl bs bw bt b B1 b1 g1 B2 b2 g2 b4 g4 left L vw vt := h.but2 (But2.of hg h.le (fun k e => by cases e))
theorem GS.it1 (h : GS N x y w0 w bl bs bw bt b B1 b1 g1 B2 b2 g2 b4 g4 left L vw vt) : It N w B1 (some ⟨b1, 0, none⟩) L :=
  ⟨h.i1, h.fr.2.2.2.2.1.1, Or.inl ⟨b1, g1, rfl, h.s1, h.fr.2.2.2.2.2.1.1, h.fr.2.2.2.2.2.2.1.1⟩, h.tab, h.fr.2.2.2.2.2.2.2.2.2.2.2.2.1⟩
theorem GS.it2 (h : GS N x y w0 w bl bs bw bt b B1 b1 g1 B2 b2 g2 b4 g4 left L vw vt) : It N w B2 (some ⟨b2, 0, none⟩) L :=
  ⟨h.i2, h.fr.2.2.2.2.2.2.2.1.1, Or.inl ⟨b2, g2, rfl, h.s2, h.fr.2.2.2.2.2.2.2.2.1.1, h.fr.2.2.2.2.2.2.2.2.2.1.1⟩, h.tab, h.fr.2.2.2.2.2.2.2.2.2.2.2.2.1⟩
theorem own_base0 {w : World} {lo n : Nat} {e : TypeId} {v : Value} {xs : List Value} (h : w.ownsRow lo e 1 v n xs) : w.ownsRow 0 e 1 v n xs := by
  refine ⟨h.1, ?_⟩
  rcases h.2 with h1 | ⟨g, cap, cur, rfl, h2, h3⟩
  · exact Or.inl h1
  · exact Or.inr ⟨g, cap, cur, rfl, Nat.zero_le _, h3⟩
/-- GS, and the two blocks of deferred calls. -/
theorem GS.kept2 (h : GS N x y w0 w bl bs bw bt b B1 b1 g1 B2 b2 g2 b4 g4 left L vw vt ∧ w.heap[D]? = some (.deferred (some [])) ∧ w.heap[D2]? = some (.deferred (some []))) (hg : w.grownBy w' none) : GS N x y w0 w' bl bs bw bt b B1 b1 g1 B2 b2 g2 b4 g4 left L vw vt ∧ w'.heap[D]? = some (.deferred (some [])) ∧ w'.heap[D2]? = some (.deferred (some [])) :=
  ⟨h.1.kept hg, (hg.block D (row_lt h.2.1) (by simp)).trans h.2.1, (hg.block D2 (row_lt h.2.2) (by simp)).trans h.2.2⟩
/-- A number of a list that was told. -/
theorem row_cell {w : World} {lo n : Nat} {v : Value} {zs : List Nat} (h : w.ownsRow lo 3 1 v n (intsV zs)) {k : Nat} (hk : k < zs.length) : ∃ A cap, v = .slice (some ⟨A, 0, none⟩) n cap ∧ zs.length = n ∧ w.cell? ⟨A, k, none⟩ = some (.int .i64 ((zs.getD k 0 : Nat) : Int)) := by
  have hl : zs.length = n := by have := h.1; simpa [intsV_length] using this
  rcases h.2 with ⟨_, h0⟩ | ⟨A, cap, cur, rfl, _, hc, _, _, _, ht⟩
  · omega
  · refine ⟨A, cap, rfl, hl, ?_⟩
    rw [cell_of_row w A k cur 3 (0, 0) hc]
    have h1 : (cur.toList.take (n * 1))[k]? = some (.int .i64 ((zs.getD k 0 : Nat) : Int)) := by
      rw [ht, intsV, List.getElem?_map, List.getElem?_eq_getElem hk]
      simp [List.getD_eq_getElem?_getD, hk]
    rw [List.getElem?_take] at h1
    split at h1
    · simpa using h1
    · cases h1
end

set_option maxRecDepth 100000 in
set_option maxHeartbeats 4000000 in
theorem goes_any (ao : Option Addr) (m cap : Nat) (xs : List Int) (bo : Option Addr) (m2 cap2 : Nat) (ys : List Int) (left : Int) (w : World) (hT : Tab w) (hxs : xs.length = m) (hat : AtV w ao (xs.map (Value.int .i64))) (hm : m ≤ 4611686018427387904) (hys : ys.length = m2) (hbt : AtV w bo (ys.map (Value.int .i64))) (_hm2 : m2 ≤ 4611686018427387904) :
    Calls Tryd.prog 8 #[.slice ao m cap, .slice bo m2 cap2, .int .i64 left] w fun e w' => e = .returned (.bool true) ∧ w.grownBy w' none := by
  have H := hide (And.intro hT (And.intro hxs (And.intro hat (And.intro hys hbt))))
  clear hT hxs hat hys hbt
  refine (callsIn_wide (n := 6)).1 (callsIn_of_wp_marks Tryd.func8 rfl trivial ?_ rfl)
  simp only [Tryd.ntmps8, List.size_toArray, List.length_cons, List.length_nil, Nat.reduceAdd, Nat.reduceSub, Array.replicate_succ, Array.replicate_zero, List.push_toArray, List.append_toArray, List.nil_append, List.cons_append]
  refine wpIn_wide.2 ?_
  go_wp2_with fail
  have g0 := World.grownBy_alloc w (.cells #[.int .i64 left] 3) none
  have b0 := Boxed.new w 3 (.int .i64 left)
  obtain ⟨bl, hbl⟩ : ∃ bl, bl = w.heap.size := ⟨_, rfl⟩
  rw [← hbl] at b0 ⊢
  generalize w.alloc (.cells #[.int .i64 left] 3) = w0 at *
  have H0 := hide (And.intro g0 b0)
  clear g0 b0 hbl
  refine (awake_any w0 (H.out.1.kept H0.out.1 (by simp))).mono ?_
  rintro e w1 ⟨rfl, hg1⟩
  have H1 := hide (And.intro (grown_trans H0.out.1 hg1) (H0.out.2.kept hg1 (by simp)))
  clear hg1 H0
  go_wp2_with fail
  refine (new_any 300 w1 (by decide) (H.out.1.kept H1.out.1 (by simp)).lt).mono ?_
  rintro e w2 ⟨b, g, rfl, hS, hb, hg, hg2⟩
  have hgw : w.heap.size ≤ g := Nat.le_trans H1.out.1.size hg
  have hg0 : 0 < g := by have := (H.out.1.kept H1.out.1 (by simp)).lt; omega
  have a3 := World.grownBy_alloc w2 (.cells #[.pointer (some ⟨b, 0, none⟩)] 24) none
  have b3 := Boxed.new w2 24 (.pointer (some ⟨b, 0, none⟩))
  obtain ⟨bs, hbs⟩ : ∃ bs, bs = w2.heap.size := ⟨_, rfl⟩
  have H2 := hide (And.intro (hS.kept a3 (by simp) (by simp)) (And.intro (grown_trans H1.out.1 (grown_trans hg2 a3)) (And.intro b3 ((H1.out.2.kept hg2 (by simp)).kept a3 (by simp)))))
  have HB := hide hbs
  clear hS hg2 H1 hb hg a3 b3 hbs
  go_wp2
  rw [← HB.out]
  rw [← HB.out] at H2
  generalize w2.alloc (.cells #[.pointer (some ⟨b, 0, none⟩)] 24) = w3 at *
  go_loopg [9] m (fun k I wr => ∃ (j : Nat) (L : List Bool), k + j = m ∧ I = .int .i64 (j : Int) ∧ Hid (SetAt wr b g L ∧ w.grownBy wr none ∧ L.length = 300 ∧ Boxed wr bs 24 (.pointer (some ⟨b, 0, none⟩)) ∧ Boxed wr bl 3 (.int .i64 left)))
  case atStart => exact ⟨0, _, by omega, rfl, hide ⟨H2.out.1, H2.out.2.1, by simp, H2.out.2.2.1, H2.out.2.2.2⟩⟩
  case round =>
    clear H2 HB
    obtain ⟨j, L, hkj, rfl, hS⟩ := hrel
    by_cases hk : 0 < gk
    · obtain ⟨_, hxs, hat, _⟩ := H.out
      have hj : j < xs.length := by omega
      obtain ⟨a, rfl, hca⟩ := hat j (.int .i64 xs[j]) (by simp [hj])
      have hca' := hS.out.2.1.cell hca (by simp)
      have hcs := hS.out.2.2.2.1.cell
      generalize xs[j] = x at *
      have h1 : (0 : Int) ≤ (j : Int) := by omega
      have h2 : (j : Int) < (m : Int) := by omega
      have hne : (a.add j).block ≠ g := by have := World.block_lt_of_cell? w _ hca; omega
      clear hat hxs hj hca
      have hbg : bs ≠ g := box_ne hS.out.2.2.2.1 hS.out.1 (by decide)
      have hab : (a.add j).block ≠ g := hne
      have hSd := hide (hS.out.1.kept (grown_drew wr none) (by simp) (by simp))
      go_wp2_with fail
      go_region_held3 (fun w' => w'.cell? ⟨bs, 0, none⟩ = some (.pointer (some ⟨b, 0, none⟩)) ∧ w'.cell? (a.add j) = some (.int .i64 x)) (first | assumption | go_keep)
        ((first
          | (go_at_call 12; refine (pick300 x _).mono ?_; rintro e wA ⟨rfl, rfl⟩)
          | (go_at_call 24; refine (put_int b g L _ _ hSd.out).mono ?_; rintro e wB ⟨rfl, hSB, hgB⟩; have hcB := And.intro (hgB.cell hcs (by simpa using hbg)) (hgB.cell hca' (by simpa using hab)))))
      have HN : Hid (SetAt wB b g (putF L (x % 300)) ∧ w.grownBy wB none ∧ (putF L (x % 300)).length = 300 ∧ Boxed wB bs 24 (.pointer (some ⟨b, 0, none⟩)) ∧ Boxed wB bl 3 (.int .i64 left)) :=
        ⟨hSB, grown_then (grown_trans hS.out.2.1 (grown_drew wr none)) hgB (fun k e => by cases e; exact Or.inl hgw), (putF_length L _).trans hS.out.2.2.1, (hS.out.2.2.2.1.kept (grown_drew wr none) (by simp)).kept hgB (by simpa using hbg), (hS.out.2.2.2.2.kept (grown_drew wr none) (by simp)).kept hgB (by simpa using box_ne hS.out.2.2.2.2 hS.out.1 (by decide))⟩
      clear hSB hgB hcB hSd hS
      go_wp2
      go_roundg (gk - 1)
      case measure => omega
      case rel => exact ⟨j + 1, _, by omega, by go_num, HN⟩
    · have hj : j = m := by omega
      subst hj
      have hcs := hS.out.2.2.2.1.cell
      have hTr := hide (H.out.1.kept hS.out.2.1 (by simp))
      have hL300 : L.length = 300 := hS.out.2.2.1
      have HL := hide hL300
      have hS0 := hide (hS.out.1.kept (grown_drew wr none) (by simp) (by simp))
      have hT0 := hide (hTr.out.kept (grown_drew wr none) (by simp))
      clear hL300
      go_wp2_with fail
      go_region_held3 (fun w' => w'.cell? ⟨bs, 0, none⟩ = some (.pointer (some ⟨b, 0, none⟩))) (first | assumption | go_keep)
        ((first
          | (go_at_call 27; refine (all_fresh b g L _ hS0.out hT0.out).mono ?_; rintro e wA ⟨B1, b1, g1, rfl, hB1, hs1, l1, l2, l3, hgA⟩; have hcA := hgA.cell ‹_› (by simp); have HA := hide (And.intro hB1 (And.intro hs1 (And.intro (And.intro l1 (And.intro l2 l3)) hgA))); clear hB1 hs1 l1 l2 l3 hgA)
          | (go_at_call 31; refine (gaps_fresh b g L _ (hS0.out.kept HA.out.2.2.2 (by simp) (by simp)) (hT0.out.kept HA.out.2.2.2 (by simp))).mono ?_; rintro e wB ⟨B2, b2, g2, rfl, hB2, hs2, l1, l2, l3, hgB⟩; have hcB := hgB.cell ‹_› (by simp); have HB := hide (And.intro hB2 (And.intro hs2 (And.intro (And.intro l1 (And.intro l2 l3)) hgB))); clear hB2 hs2 l1 l2 l3 hgB)
          | (go_at_call 16; refine (copy_any b g L _ (hS0.out.kept (grown_trans HA.out.2.2.2 HB.out.2.2.2) (by simp) (by simp)) (hT0.out.kept (grown_trans HA.out.2.2.2 HB.out.2.2.2) (by simp)).lt).mono ?_; rintro e wC ⟨b4, g4, rfl, hs4, l1, l2, hgC⟩; have hcC := hgC.cell ‹_› (by simp); have HC := hide (And.intro hs4 (And.intro (And.intro l1 l2) hgC)); clear hs4 l1 l2 hgC)))
      have GC : wr.grownBy wC none := grown_trans (grown_drew wr none) (grown_trans HA.out.2.2.2 (grown_trans HB.out.2.2.2 HC.out.2.2))
      have zr : wr.heap.size ≤ wC.heap.size := GC.size
      have HG : Hid (SetAt wC b g L ∧ w.grownBy wC none ∧ Boxed wC bs 24 (.pointer (some ⟨b, 0, none⟩)) ∧ Boxed wC bl 3 (.int .i64 left) ∧ (Boxed wC B1 24 (.pointer (some ⟨b1, 0, none⟩)) ∧ SetAt wC b1 g1 L) ∧ (Boxed wC B2 24 (.pointer (some ⟨b2, 0, none⟩)) ∧ SetAt wC b2 g2 L) ∧ SetAt wC b4 g4 L ∧ Tab wC) :=
        ⟨hS.out.1.kept GC (by simp) (by simp), grown_trans hS.out.2.1 GC, hS.out.2.2.2.1.kept GC (by simp), hS.out.2.2.2.2.kept GC (by simp), ⟨(HA.out.1.kept (grown_trans HB.out.2.2.2 HC.out.2.2) (by simp)), HA.out.2.1.kept (grown_trans HB.out.2.2.2 HC.out.2.2) (by simp) (by simp)⟩, ⟨HB.out.1.kept HC.out.2.2 (by simp), HB.out.2.1.kept HC.out.2.2 (by simp) (by simp)⟩, HC.out.1, hTr.out.kept GC (by simp)⟩
      have hlt : b < wr.heap.size ∧ g < wr.heap.size := hS.out.1.lt
      have hl1 : wr.heap.size ≤ B1 ∧ wr.heap.size ≤ b1 ∧ wr.heap.size ≤ g1 := HA.out.2.2.1
      have hl2 : wr.heap.size ≤ B2 ∧ wr.heap.size ≤ b2 ∧ wr.heap.size ≤ g2 := by have := HB.out.2.2.1; have := HA.out.2.2.2.size; have hh : wr.drew.heap.size = wr.heap.size := rfl; omega
      have hl4 : wr.heap.size ≤ b4 ∧ wr.heap.size ≤ g4 := by have := HC.out.2.1; have := HB.out.2.2.2.size; have := HA.out.2.2.2.size; have hh : wr.drew.heap.size = wr.heap.size := rfl; omega
      clear hcA hcB hcC hcs HA HB HC GC hTr hS0 hT0 hS
      go_wp2_with fail
      have hal := allL_length L
      have hgl := gapsL_length L
      have hL300 := HL.out
      have hIt1 : AllV wC (.func (.func 55) #[] #[.pointer (some ⟨B1, 0, none⟩)]) L := ⟨B1, _, rfl, ⟨HG.out.2.2.2.2.1.1, HG.out.2.2.2.2.1.1.lt, Or.inl ⟨b1, g1, rfl, HG.out.2.2.2.2.1.2, HG.out.2.2.2.2.1.2.lt.1, HG.out.2.2.2.2.1.2.lt.2⟩, HG.out.2.2.2.2.2.2.2, HG.out.2.2.2.2.2.2.2.lt⟩, by omega⟩
      refine (told_any _ L wC hIt1).mono ?_
      clear hIt1
      rintro e wD ⟨vw, rfl, hvw, hgD⟩
      have aD := World.grownBy_alloc wD (.cells #[vw] 57) none
      have bD := Boxed.new wD 57 vw
      obtain ⟨aw, cw, rfl, -⟩ := own_at hvw
      obtain ⟨bw, hbw⟩ : ∃ bw, bw = wD.heap.size := ⟨_, rfl⟩
      have rD : ∀ k, (Value.slice aw (allL L).length cw).ownBlock = some k → wC.heap.size ≤ k ∧ k < wD.heap.size := fun k e => hvw.lt k e
      have HD := hide (And.intro (hvw.kept aD (by cases (Value.slice aw (allL L).length cw).ownBlock <;> simp)) (And.intro (grown_trans hgD aD) bD))
      have zD : wC.heap.size ≤ wD.heap.size := hgD.size
      clear hvw hgD aD bD hL300
      go_wp2_with fail
      have e1 : (wD.alloc (.cells #[.slice aw (allL L).length cw] 57)).heap.size = wD.heap.size + 1 := by simp
      rw [← hbw] at e1 ⊢
      rw [← hbw] at HD rD zD
      clear hbw
      generalize wD.alloc (.cells #[.slice aw (allL L).length cw] 57) = wD2 at *
      have G2 : w.grownBy wD2 none := grown_trans HG.out.2.1 HD.out.2.1
      have hIt2 : GapsV wD2 (.func (.func 57) #[] #[.pointer (some ⟨B2, 0, none⟩)]) L := by
        have i1 := HG.out.2.2.2.2.2.1.1.kept HD.out.2.1 (by simp)
        have i2 := HG.out.2.2.2.2.2.1.2.kept HD.out.2.1 (by simp) (by simp)
        have i3 := HG.out.2.2.2.2.2.2.2.kept HD.out.2.1 (by simp)
        exact ⟨B2, _, rfl, ⟨i1, i1.lt, Or.inl ⟨b2, g2, rfl, i2, i2.lt.1, i2.lt.2⟩, i3, i3.lt⟩, by have := HL.out; omega⟩
      refine (pairs_any _ L wD2 hIt2).mono ?_
      clear hIt2 G2
      rintro e wE ⟨vt, rfl, hvt, hgE⟩
      have aE := World.grownBy_alloc wE (.cells #[vt] 57) none
      have bE := Boxed.new wE 57 vt
      obtain ⟨at', ct, rfl, -⟩ := own_at hvt
      obtain ⟨bt, hbt⟩ : ∃ bt, bt = wE.heap.size := ⟨_, rfl⟩
      have rE : ∀ k, (Value.slice at' (flat (gapsL L)).length ct).ownBlock = some k → wD2.heap.size ≤ k ∧ k < wE.heap.size := fun k e => hvt.lt k e
      have zE : wD2.heap.size ≤ wE.heap.size := hgE.size
      have HE := hide (And.intro (hvt.kept aE (by cases (Value.slice at' (flat (gapsL L)).length ct).ownBlock <;> simp)) (And.intro (grown_trans hgE aE) bE))
      clear hvt hgE aE bE
      go_wp2
      have e2 : (wE.alloc (.cells #[.slice at' (flat (gapsL L)).length ct] 57)).heap.size = wE.heap.size + 1 := by simp
      rw [← hbt] at e2 HE rE zE ⊢
      clear hbt
      generalize wE.alloc (.cells #[.slice at' (flat (gapsL L)).length ct] 57) = wE2 at *
      have aF := World.grownBy_alloc wE2 (.cells #[.int .i64 0] 3) none
      have bF := Boxed.new wE2 3 (.int .i64 0)
      have e3 : (wE2.alloc (.cells #[.int .i64 0] 3)).heap.size = bt + 2 := by simp [e2]
      rw [e2] at bF
      generalize wE2.alloc (.cells #[.int .i64 0] 3) = wF at *
      generalize hbk : bt + 1 = bk at *
      have GF : wC.grownBy wF none := grown_trans HD.out.2.1 (grown_trans HE.out.2.1 aF)
      have GD : wD2.grownBy wF none := grown_trans HE.out.2.1 aF
      have hNb : wF.heap.size = bk + 1 := by omega
      have HGS : Hid (GS wF.heap.size g bk w wF bl bs bw bt b B1 b1 g1 B2 b2 g2 b4 g4 left L (.slice aw (allL L).length cw) (.slice at' (flat (gapsL L)).length ct)) := by
        obtain ⟨q1, q2, q3, q4, ⟨q5, q6⟩, ⟨q7, q8⟩, q9, q10⟩ := HG.out
        have t3 := q3.lt
        have t4 := q4.lt
        have t5 := q5.lt
        have t6 := q6.lt
        have t7 := q7.lt
        have t8 := q8.lt
        have t9 := q9.lt
        have n3 := box_ne q3 q1 (by decide)
        have n4 := box_ne q4 q1 (by decide)
        refine ⟨q4.kept GF (by simp), q3.kept GF (by simp), HD.out.2.2.kept GD (by simp), HE.out.2.2.kept aF (by simp), q5.kept GF (by simp), q6.kept GF (by simp) (by simp), q7.kept GF (by simp), q8.kept GF (by simp) (by simp), q9.kept GF (by simp) (by simp), ?_, ?_, q10.kept GF (by simp), grown_trans q2 GF, ?_, ?_, ?_, ?_, Nat.le_refl _⟩
        · exact own_base0 (HD.out.1.kept GD (by cases (Value.slice aw (allL L).length cw).ownBlock <;> simp))
        · exact own_base0 (HE.out.1.kept aF (by cases (Value.slice at' (flat (gapsL L)).length ct).ownBlock <;> simp))
        · unfold Fr; omega
        · intro k e; have := rD k e; unfold Fr; omega
        · intro k e; have := rE k e; unfold Fr; omega
        · have := q2.size; omega
      have hSF := HG.out.1.kept GF (by simp) (by simp)
      have hbb : b < wF.heap.size ∧ g < wF.heap.size ∧ b ≠ bk ∧ g ≠ bk := by have := HG.out.1.lt; omega
      have HSF := hide (And.intro hSF bF)
      have hL3 := hide HL.out
      clear HG HD HE GF GD aF bF hSF rD rE e1 e2 e3 zD zE zr hl1 hl2 hl4 hbk
      have hN : ∃ N, N = wF.heap.size := ⟨_, rfl⟩
      obtain ⟨N, hN⟩ := hN
      have hkN : bk < wF.heap.size ∧ g < wF.heap.size := by omega
      rw [← hN] at HGS hbb
      have HN := hide hN
      clear hNb hN
      refine (wpIn_wide (n := 6)).1 (wpIn_rangeFunc_brk (w := wF) 2 rfl (by decide) (gf := 55) (lb := #[.pointer (some ⟨B1, 0, none⟩)]) rfl trivial (enters_of Tryd.func55 (by kernel_rfl) rfl)
        (all_stops_gen (But2 N g bk) (fun W => GS N g bk w W bl bs bw bt b B1 b1 g1 B2 b2 g2 b4 g4 left L (.slice aw (allL L).length cw) (.slice at' (flat (gapsL L)).length ct)) 5 (by decide) B1 N (some ⟨b1, 0, none⟩) L wF (fun W h => h.it1) (fun W W' h h' => h'.but2 h) (fun W hB => HGS.out.but2 (But2.below hB (Nat.le_of_eq HN.out))) (by have := hL3.out; omega))
        (fun h k => h.trans k) (But2.putObj (Nat.le_of_eq HN.out)) (Below.refl _ _) (fun _ => rfl)
        (fun pre W => GS N g bk w W bl bs bw bt b B1 b1 g1 B2 b2 g2 b4 g4 left L (.slice aw (allL L).length cw) (.slice at' (flat (gapsL L)).length ct) ∧ (∃ L', SetAt W b g L' ∧ L'.length = 300) ∧ Boxed W bk 3 (.int .i64 (pre.length : Int)))
        (fun W => GS N g bk w W bl bs bw bt b B1 b1 g1 B2 b2 g2 b4 g4 left L (.slice aw (allL L).length cw) (.slice at' (flat (gapsL L)).length ct) ∧ (∃ L', SetAt W b g L' ∧ L'.length = 300) ∧ ∃ v, Boxed W bk 3 (.int .i64 v))
        (fun s A A' row hs hg hr => ⟨hs.1.but2 (But2.of hg hs.1.le (fun k e => Or.inr (Or.inr (by have := (hr k e).1; have := HN.out; omega)))), by
          obtain ⟨L', h1, h2⟩ := hs.2.1
          exact ⟨L', h1.kept hg (fun e => by have := (hr _ e).1; have := HN.out; omega) (fun e => by have := (hr _ e).1; have := HN.out; omega), h2⟩, hs.2.2.kept hg (fun e => by have := (hr _ e.symm).1; have := HN.out; omega)⟩)
        (fun s A A' row hs hg hr => ⟨hs.1.but2 (But2.of hg hs.1.le (fun k e => Or.inr (Or.inr (by have := (hr k e).1; have := HN.out; omega)))), by
          obtain ⟨L', h1, h2⟩ := hs.2.1
          exact ⟨L', h1.kept hg (fun e => by have := (hr _ e).1; have := HN.out; omega) (fun e => by have := (hr _ e).1; have := HN.out; omega), h2⟩, by
          obtain ⟨v, hv⟩ := hs.2.2
          exact ⟨v, hv.kept hg (fun e => by have := (hr _ e.symm).1; have := HN.out; omega)⟩⟩)
        ⟨HGS.out, ⟨L, HSF.out.1, hL3.out⟩, HSF.out.2⟩ (fun pre W h => ⟨h.1, h.2.1, _, h.2.2⟩)
        (fun x => { tmps := #[Value.slice ao j cap, Value.slice bo m2 cap2, Value.int IntKind.i64 left, undef, undef, Value.pointer (some { block := bl, off := 0 }), Value.bool false, Value.pointer (some { block := bs, off := 0 }), Value.int IntKind.i64 0, Value.int IntKind.i64 ↑j, Value.func (Fn.func 55) #[] #[Value.pointer (some { block := B1, off := 0 })], Value.func (Fn.func 57) #[] #[Value.pointer (some { block := B2, off := 0 })], Value.pointer (some { block := b4, off := 0 }), Value.pointer (some { block := bw, off := 0 }), Value.bool true, Value.pointer (some { block := bt, off := 0 }), Value.bool true, Value.pointer (some { block := bk, off := 0 }), Value.int IntKind.i64 ↑x, undef, undef, undef, undef, undef, undef, undef, undef, undef, Value.bool true, Value.bool false, Value.tuple #[Value.pointer (some { block := b, off := 0 }), Value.int IntKind.i64 0], Value.tuple #[Value.pointer (some { block := b, off := 0 }), Value.int IntKind.i64 0], Value.pointer (some { block := b, off := 0 }), Value.int IntKind.i64 0, Value.int IntKind.i64 ↑j, Value.slice ao j cap, Value.int IntKind.i64 ↑j, Value.bool false, u38, u39, u40, u41, u42, u43, u44, u45, u46, Value.pointer (some { block := b, off := 0 }), Value.func (Fn.func 55) #[] #[Value.pointer (some { block := B1, off := 0 })], Value.pointer (some { block := b, off := 0 }), Value.func (Fn.func 57) #[] #[Value.pointer (some { block := B2, off := 0 })], Value.pointer (some { block := b, off := 0 }), Value.pointer (some { block := b4, off := 0 }), Value.tuple #[Value.slice aw (allL L).length cw, Value.bool true], Value.func (Fn.func 55) #[] #[Value.pointer (some { block := B1, off := 0 })], Value.tuple #[Value.slice aw (allL L).length cw, Value.bool true], Value.slice aw (allL L).length cw, Value.bool true, Value.tuple #[Value.slice at' (flat (gapsL L)).length ct, Value.bool true], Value.func (Fn.func 57) #[] #[Value.pointer (some { block := B2, off := 0 })], Value.tuple #[Value.slice at' (flat (gapsL L)).length ct, Value.bool true], Value.slice at' (flat (gapsL L)).length ct, Value.bool true, Value.func (Fn.func 55) #[] #[Value.pointer (some { block := B1, off := 0 })], Value.int IntKind.i64 ↑x, undef, undef, undef, undef, undef, undef, undef, undef, undef, undef, undef, undef, undef, undef, undef, undef, undef, undef, undef, undef, undef, undef, undef, undef, undef, undef, undef, undef, undef, undef, undef, undef, undef, undef, undef, undef, undef, undef, undef, undef, undef, undef, undef, undef, undef, undef, undef, undef, undef, undef, undef, undef, undef, undef, undef, undef, undef, undef, undef, undef, undef, undef, undef, undef, undef, undef, undef, undef, undef, undef, undef, undef, undef, undef, undef, undef, undef, undef, undef, undef, undef, undef, undef, undef, undef, undef, undef, undef, undef, undef, undef, undef, undef, undef, undef, undef, undef], defers := [] }) ?assign ?body ?hend)
      case assign =>
        intro l x W K hK
        gi_wp2
        exact hK
      case body =>
        rintro l pre x W ⟨hG1, ⟨L', hS', hl'⟩, hk'⟩ hlt
        have hX : GS N g bk w W bl bs bw bt b B1 b1 g1 B2 b2 g2 b4 g4 left L (.slice aw (allL L).length cw) (.slice at' (flat (gapsL L)).length ct) ∧ (∃ L', SetAt W b g L' ∧ L'.length = 300) ∧ ∃ v, Boxed W bk 3 (.int .i64 v) := ⟨hG1, ⟨L', hS', hl'⟩, _, hk'⟩
        have HX := hide hX
        clear hX
        have hcw := hG1.wbox.cell
        have hck := hk'.cell
        have hfk := hk'.frozen
        have hcl := hG1.lbox.cell
        have hcs := hG1.sbox.cell
        obtain ⟨A, cA, hv, hlen, hce⟩ := row_cell hG1.wrow hlt
        have hfr := hG1.fr
        unfold Fr at hfr
        have hbsk : bs ≠ bk := hfr.2.1.2.2
        have hp300 : pre.length ≤ 300 := by have := allL_length L; have := hL3.out; omega
        have HG1 := hide (And.intro hG1 (And.intro hS' (And.intro hl' hk')))
        clear hG1 hS' hl' hk' hfr
        generalize (allL L).getD pre.length 0 = y at *
        simp only [Value.slice.injEq] at hv
        obtain ⟨ha, -, hc⟩ := hv
        rw [ha, hc] at hcw
        clear ha hc
        have hi0 : (0 : Int) ≤ (pre.length : Int) := by omega
        have hi1 : (pre.length : Int) < ((allL L).length : Int) := by omega
        generalize hpl : pre.length = pl at *
        by_cases hxy : x = y
        · subst hxy
          by_cases hle : (pl : Int) = left
          · subst hle
            gi_wp2
            exact ⟨KeepsFrom.refl _ _, rfl, HX.out⟩
          · have hq : ((pl : Int) == left) = false := by simpa using hle
            have hq' : decide ((pl : Int) = left) = false := by simpa using hle
            have gk1 := grown_setCell W bk 0 (.int .i64 ((pl : Int) + 1))
            have hSk : SetAt (W.setCell ⟨bk, 0, none⟩ (.int .i64 ((pl : Int) + 1))) b g L' := HG1.out.2.1.kept gk1 (by simpa using Ne.symm hbb.2.2.1) (by simpa using Ne.symm hbb.2.2.2)
            have hbk1 := HG1.out.2.2.2.set (.int .i64 ((pl : Int) + 1))
            have hcs1 : (W.setCell ⟨bk, 0, none⟩ (.int .i64 ((pl : Int) + 1))).cell? ⟨bs, 0, none⟩ = some (.pointer (some ⟨b, 0, none⟩)) := gk1.cell hcs (by simpa using hbsk)
            have hck1 := hbk1.cell
            have HK1 := hide (And.intro hSk (And.intro hbk1 gk1))
            have hp4 : (pl : Int) + 1 < 400 := by omega
            clear hSk hbk1 gk1
            gi_wp2_with fail
            refine ⟨trivial, ?_⟩
            refine (CallsIn.inRound l (callsIn_wide.2 (drop_int b g L' (x : Int) _ HK1.out.1))).mono ?_
            rintro e W2 ⟨rfl, hS2, hg2⟩
            have hbk2 := HK1.out.2.1.kept hg2 (by simpa using Ne.symm hbb.2.2.2)
            have hle1 := HG1.out.1.le
            have hBB : But2 N g bk W W2 := (But2.of HK1.out.2.2 hle1 (fun k e => by cases e; exact Or.inr (Or.inl rfl))).trans (But2.of hg2 (Nat.le_trans hle1 HK1.out.2.2.size) (fun k e => by cases e; exact Or.inl rfl))
            have HE2 : Hid (KeepsFrom wF.heap.size W W2 ∧ But2 N g bk W W2 ∧ GS N g bk w W2 bl bs bw bt b B1 b1 g1 B2 b2 g2 b4 g4 left L (.slice aw (allL L).length cw) (.slice at' (flat (gapsL L)).length ct) ∧ (∃ L', SetAt W2 b g L' ∧ L'.length = 300) ∧ Boxed W2 bk 3 (.int .i64 ((pre ++ [x]).length : Int))) := by
              refine ⟨(KeepsFrom.of_grownBy (B := wF.heap.size) HK1.out.2.2 (fun j e => by cases e; omega)).trans (KeepsFrom.of_grownBy (B := wF.heap.size) hg2 (fun j e => by cases e; omega)), hBB, HG1.out.1.but2 hBB, ⟨_, hS2, (setF_length _ _ _ _).trans HG1.out.2.2.1⟩, ?_⟩
              have hpn : ((pre ++ [x]).length : Int) = (pl : Int) + 1 := by simp [hpl]
              rw [hpn]
              exact hbk2
            clear hS2 hg2 hbk2 hBB hle1
            generalize mayF L'.length (x : Int) = z at *
            gi_wp2
            exact HE2.out
        · have hq : ((x : Int) == (y : Int)) = false := by simp; omega
          gi_wp2
          exact ⟨KeepsFrom.refl _ _, rfl, HX.out⟩
      case hend =>
        rintro D W hD ⟨hG1, ⟨L1, hS1, hl1⟩, kv, hkv⟩ hK
        have hck := hkv.cell
        have hfk := hkv.frozen
        have gk1 := grown_setCell W bk 0 (.int .i64 0)
        have hSk : SetAt (W.setCell ⟨bk, 0, none⟩ (.int .i64 0)) b g L1 := hS1.kept gk1 (by simpa using Ne.symm hbb.2.2.1) (by simpa using Ne.symm hbb.2.2.2)
        have hbk1 := hkv.set (.int .i64 0)
        have hGk := hG1.but2 (But2.of gk1 hG1.le (fun k e => by cases e; exact Or.inr (Or.inl rfl)))
        have hKk : (W.setCell ⟨bk, 0, none⟩ (.int .i64 0)).heap[D]? = some (.deferred (some [])) := (gk1.block D (row_lt hK) (by simp; omega)).trans hK
        have hDl : D < (W.setCell ⟨bk, 0, none⟩ (.int .i64 0)).heap.size := row_lt hKk
        have H5 := hide (And.intro hSk (And.intro hbk1 (And.intro hGk (And.intro hKk (And.intro hl1 HN.out)))))
        have hDN : N ≤ D := by have := HN.out; omega
        have hkN' : bk < N ∧ g < N := by have := HN.out; omega
        clear hS1 hkv hK hG1 gk1 hSk hbk1 hGk hKk HSF HGS HN hD hl1 hkN
        go_wp2
        generalize W.setCell ⟨bk, 0, none⟩ (.int .i64 0) = W5 at *
        have hle5 : N ≤ W5.heap.size := H5.out.2.2.1.le
        refine (wpIn_wide (n := 6)).1 (wpIn_rangeFunc_brk (w := W5) 4 rfl (by decide) (gf := 57) (lb := #[.pointer (some ⟨B2, 0, none⟩)]) rfl trivial (enters_of Tryd.func57 (by kernel_rfl) rfl)
          (gaps_stops_gen (But2 N g bk) (fun W => GS N g bk w W bl bs bw bt b B1 b1 g1 B2 b2 g2 b4 g4 left L (.slice aw (allL L).length cw) (.slice at' (flat (gapsL L)).length ct)) 5 (by decide) B2 N (some ⟨b2, 0, none⟩) L W5 (fun W h => h.it2) (fun W W' h h' => h'.but2 h) (fun W hB => H5.out.2.2.1.but2 (But2.below hB hle5)) (by have := hL3.out; omega))
          (fun h k => h.trans k) (But2.putObj hle5) (Below.refl _ _) (fun _ => rfl)
          (fun pre W => GS N g bk w W bl bs bw bt b B1 b1 g1 B2 b2 g2 b4 g4 left L (.slice aw (allL L).length cw) (.slice at' (flat (gapsL L)).length ct) ∧ (∃ L', SetAt W b g L' ∧ L'.length = 300) ∧ Boxed W bk 3 (.int .i64 ((2 * pre.length : Nat) : Int)) ∧ W.heap[D]? = some (.deferred (some [])))
          (fun W => GS N g bk w W bl bs bw bt b B1 b1 g1 B2 b2 g2 b4 g4 left L (.slice aw (allL L).length cw) (.slice at' (flat (gapsL L)).length ct) ∧ (∃ L', SetAt W b g L' ∧ L'.length = 300) ∧ (∃ v, Boxed W bk 3 (.int .i64 v)) ∧ W.heap[D]? = some (.deferred (some [])))
          (fun s A A' row hs hg hr => ⟨hs.1.but2 (But2.of hg hs.1.le (fun k e => Or.inr (Or.inr (by have := (hr k e).1; omega)))), by
            obtain ⟨L', h1, h2⟩ := hs.2.1
            exact ⟨L', h1.kept hg (fun e => by have := (hr _ e).1; omega) (fun e => by have := (hr _ e).1; omega), h2⟩, hs.2.2.1.kept hg (fun e => by have := (hr _ e.symm).1; omega), (hg.block D (row_lt hs.2.2.2) (fun e => by have := (hr _ e.symm).1; omega)).trans hs.2.2.2⟩)
          (fun s A A' row hs hg hr => ⟨hs.1.but2 (But2.of hg hs.1.le (fun k e => Or.inr (Or.inr (by have := (hr k e).1; omega)))), by
            obtain ⟨L', h1, h2⟩ := hs.2.1
            exact ⟨L', h1.kept hg (fun e => by have := (hr _ e).1; omega) (fun e => by have := (hr _ e).1; omega), h2⟩, by
            obtain ⟨v, hv⟩ := hs.2.2.1
            exact ⟨v, hv.kept hg (fun e => by have := (hr _ e.symm).1; omega)⟩, (hg.block D (row_lt hs.2.2.2) (fun e => by have := (hr _ e.symm).1; omega)).trans hs.2.2.2⟩)
          ⟨H5.out.2.2.1, ⟨L1, H5.out.1, H5.out.2.2.2.2.1⟩, H5.out.2.1, H5.out.2.2.2.1⟩ (fun pre W h => ⟨h.1, h.2.1, ⟨_, h.2.2.1⟩, h.2.2.2⟩)
          (fun x => { tmps := #[Value.slice ao j cap, Value.slice bo m2 cap2, Value.int IntKind.i64 left, undef, undef, Value.pointer (some { block := bl, off := 0 }), Value.bool false, Value.pointer (some { block := bs, off := 0 }), Value.int IntKind.i64 0, Value.int IntKind.i64 ↑j, Value.func (Fn.func 55) #[] #[Value.pointer (some { block := B1, off := 0 })], Value.func (Fn.func 57) #[] #[Value.pointer (some { block := B2, off := 0 })], Value.pointer (some { block := b4, off := 0 }), Value.pointer (some { block := bw, off := 0 }), Value.bool true, Value.pointer (some { block := bt, off := 0 }), Value.bool true, Value.pointer (some { block := bk, off := 0 }), undef, Value.int IntKind.i64 ↑x.1, Value.int IntKind.i64 ↑x.2, undef, undef, undef, undef, undef, undef, undef, Value.bool true, Value.bool false, Value.tuple #[Value.pointer (some { block := b, off := 0 }), Value.int IntKind.i64 0], Value.tuple #[Value.pointer (some { block := b, off := 0 }), Value.int IntKind.i64 0], Value.pointer (some { block := b, off := 0 }), Value.int IntKind.i64 0, Value.int IntKind.i64 ↑j, Value.slice ao j cap, Value.int IntKind.i64 ↑j, Value.bool false, u38, u39, u40, u41, u42, u43, u44, u45, u46, Value.pointer (some { block := b, off := 0 }), Value.func (Fn.func 55) #[] #[Value.pointer (some { block := B1, off := 0 })], Value.pointer (some { block := b, off := 0 }), Value.func (Fn.func 57) #[] #[Value.pointer (some { block := B2, off := 0 })], Value.pointer (some { block := b, off := 0 }), Value.pointer (some { block := b4, off := 0 }), Value.tuple #[Value.slice aw (allL L).length cw, Value.bool true], Value.func (Fn.func 55) #[] #[Value.pointer (some { block := B1, off := 0 })], Value.tuple #[Value.slice aw (allL L).length cw, Value.bool true], Value.slice aw (allL L).length cw, Value.bool true, Value.tuple #[Value.slice at' (flat (gapsL L)).length ct, Value.bool true], Value.func (Fn.func 57) #[] #[Value.pointer (some { block := B2, off := 0 })], Value.tuple #[Value.slice at' (flat (gapsL L)).length ct, Value.bool true], Value.slice at' (flat (gapsL L)).length ct, Value.bool true, Value.func (Fn.func 55) #[] #[Value.pointer (some { block := B1, off := 0 })], undef, undef, undef, undef, undef, undef, undef, undef, undef, undef, undef, undef, undef, undef, undef, undef, undef, undef, undef, Value.func (Fn.func 57) #[] #[Value.pointer (some { block := B2, off := 0 })], Value.int IntKind.i64 ↑x.1, Value.int IntKind.i64 ↑x.2, undef, undef, undef, undef, undef, undef, undef, undef, undef, undef, undef, undef, undef, undef, undef, undef, undef, undef, undef, undef, undef, undef, undef, undef, undef, undef, undef, undef, undef, undef, undef, undef, undef, undef, undef, undef, undef, undef, undef, undef, undef, undef, undef, undef, undef, undef, undef, undef, undef, undef, undef, undef, undef, undef, undef, undef, undef, undef, undef, undef, undef, undef, undef, undef, undef, undef, undef, undef, undef, undef, undef, undef, undef, undef, undef, undef], defers := [] }) ?assign ?body ?hend)
        case assign =>
          intro l x W K hK
          simp only [encP]
          gi_wp2
          exact hK
        case body =>
          rintro l pre x W ⟨hG1, ⟨L', hS', hl'⟩, hk', hD'⟩ hlt
          have hX : GS N g bk w W bl bs bw bt b B1 b1 g1 B2 b2 g2 b4 g4 left L (.slice aw (allL L).length cw) (.slice at' (flat (gapsL L)).length ct) ∧ (∃ L', SetAt W b g L' ∧ L'.length = 300) ∧ (∃ v, Boxed W bk 3 (.int .i64 v)) ∧ W.heap[D]? = some (.deferred (some [])) := ⟨hG1, ⟨L', hS', hl'⟩, ⟨_, hk'⟩, hD'⟩
          have HX := hide hX
          clear hX
          obtain ⟨q, hq⟩ : ∃ q, q = 2 * pre.length := ⟨_, rfl⟩
          have hfl : (flat (gapsL L)).length = 2 * (gapsL L).length := flat_length _
          rw [← hq] at hk'
          have hct := hG1.tbox.cell
          have hck := hk'.cell
          have hfk := hk'.frozen
          have hcs := hG1.sbox.cell
          obtain ⟨A, cA, hv, hlen, hce⟩ := row_cell hG1.trow (k := q) (by omega)
          obtain ⟨A', cA', hv', -, hce'⟩ := row_cell hG1.trow (k := q + 1) (by omega)
          have hfr := hG1.fr
          unfold Fr at hfr
          have hbsk : bs ≠ bk := hfr.2.1.2.2
          have hp300 : q + 1 < (flat (gapsL L)).length ∧ (flat (gapsL L)).length ≤ 600 := by have := gapsL_length L; have := hL3.out; omega
          have HG1 := hide (And.intro hG1 (And.intro hS' (And.intro hl' (And.intro hk' (And.intro hD' hq)))))
          clear hG1 hS' hl' hk' hD' hfr hq hfl
          generalize (flat (gapsL L)).getD q 0 = y1 at *
          generalize (flat (gapsL L)).getD (q + 1) 0 = y2 at *
          simp only [Value.slice.injEq] at hv hv'
          obtain ⟨ha, -, hc⟩ := hv
          obtain ⟨ha', -, hc'⟩ := hv'
          rw [ha] at ha'
          simp only [Option.some.injEq, Addr.mk.injEq, and_true] at ha'
          subst ha'
          rw [ha, hc] at hct
          clear ha hc hc' hlen
          have hi0 : (0 : Int) ≤ (q : Int) := by omega
          have hi1 : (q : Int) < ((flat (gapsL L)).length : Int) := by omega
          have hi2 : (q : Int) + 1 < ((flat (gapsL L)).length : Int) := by omega
          have hi3 : (q : Int) ≤ 600 := by omega
          clear hp300
          by_cases hx1 : x.1 = y1
          · by_cases hx2 : x.2 = y2
            · by_cases h20 : q ≤ 20
              · have h20' : ¬ (20 : Int) < (q : Int) := by omega
                have gk1 := grown_setCell W bk 0 (.int .i64 ((q : Int) + 2))
                have hSk : SetAt (W.setCell ⟨bk, 0, none⟩ (.int .i64 ((q : Int) + 2))) b g L' := HG1.out.2.1.kept gk1 (by simpa using Ne.symm hbb.2.2.1) (by simpa using Ne.symm hbb.2.2.2)
                have hbk1 := HG1.out.2.2.2.1.set (.int .i64 ((q : Int) + 2))
                have hcs1 : (W.setCell ⟨bk, 0, none⟩ (.int .i64 ((q : Int) + 2))).cell? ⟨bs, 0, none⟩ = some (.pointer (some ⟨b, 0, none⟩)) := gk1.cell hcs (by simpa using hbsk)
                have hck1 := hbk1.cell
                have HK1 := hide (And.intro hSk (And.intro hbk1 gk1))
                clear hSk hbk1 gk1
                subst hx1 hx2
                gi_wp2_with fail
                refine ⟨trivial, ?_⟩
                refine (CallsIn.inRound l (callsIn_wide.2 (put_int b g L' (x.1 : Int) _ HK1.out.1))).mono ?_
                rintro e W2 ⟨rfl, hS2, hg2⟩
                have hbk2 := HK1.out.2.1.kept hg2 (by simpa using Ne.symm hbb.2.2.2)
                have hle1 := HG1.out.1.le
                have hBB : But2 N g bk W W2 := (But2.of HK1.out.2.2 hle1 (fun k e => by cases e; exact Or.inr (Or.inl rfl))).trans (But2.of hg2 (Nat.le_trans hle1 HK1.out.2.2.size) (fun k e => by cases e; exact Or.inl rfl))
                have hD1 := (HK1.out.2.2.block D (row_lt HG1.out.2.2.2.2.1) (by simp; omega)).trans HG1.out.2.2.2.2.1
                have hD2 := (hg2.block D (row_lt hD1) (by simp; omega)).trans hD1
                have HE2 : Hid (KeepsFrom W5.heap.size W W2 ∧ But2 N g bk W W2 ∧ GS N g bk w W2 bl bs bw bt b B1 b1 g1 B2 b2 g2 b4 g4 left L (.slice aw (allL L).length cw) (.slice at' (flat (gapsL L)).length ct) ∧ (∃ L', SetAt W2 b g L' ∧ L'.length = 300) ∧ Boxed W2 bk 3 (.int .i64 ((2 * (pre ++ [x]).length : Nat) : Int)) ∧ W2.heap[D]? = some (.deferred (some []))) := by
                  refine ⟨(KeepsFrom.of_grownBy (B := W5.heap.size) HK1.out.2.2 (fun j e => by cases e; omega)).trans (KeepsFrom.of_grownBy (B := W5.heap.size) hg2 (fun j e => by cases e; omega)), hBB, HG1.out.1.but2 hBB, ⟨_, hS2, (putF_length _ _).trans HG1.out.2.2.1⟩, ?_, hD2⟩
                  have hpn : ((2 * (pre ++ [x]).length : Nat) : Int) = (q : Int) + 2 := by have := HG1.out.2.2.2.2.2; simp only [List.length_append, List.length_cons, List.length_nil]; omega
                  rw [hpn]
                  exact hbk2
                clear hS2 hg2 hbk2 hBB hle1 hD1 hD2
                generalize mayF L'.length (x.1 : Int) = z at *
                gi_wp2
                exact HE2.out
              · have h20' : (20 : Int) < (q : Int) := by omega
                subst hx1 hx2
                gi_wp2
                exact ⟨KeepsFrom.refl _ _, rfl, HX.out⟩
            · have hq2 : ((x.2 : Int) == (y2 : Int)) = false := by simp; omega
              subst hx1
              gi_wp2
              exact ⟨KeepsFrom.refl _ _, rfl, HX.out⟩
          · have hq1 : ((x.1 : Int) == (y1 : Int)) = false := by simp; omega
            gi_wp2
            exact ⟨KeepsFrom.refl _ _, rfl, HX.out⟩
        case hend =>
          rintro D2 W hD2 ⟨hG1, ⟨L2, hS2, hl2⟩, ⟨kv2, hkv2⟩, hKD⟩ hK2
          have H6 : Hid (∃ L', SetAt W b g L' ∧ L'.length = 300 ∧ GS N g bk w W bl bs bw bt b B1 b1 g1 B2 b2 g2 b4 g4 left L (.slice aw (allL L).length cw) (.slice at' (flat (gapsL L)).length ct) ∧ W.heap[D]? = some (.deferred (some [])) ∧ W.heap[D2]? = some (.deferred (some []))) := ⟨L2, hS2, hl2, hG1, hKD, hK2⟩
          have hDD : N ≤ D2 ∧ D < D2 := by omega
          clear hG1 hS2 hl2 hkv2 hKD hK2 H5
          go_wp2
          go_loopg [21] m2 (fun k I wr => ∃ j2 : Nat, k + j2 = m2 ∧ I = .int .i64 (j2 : Int) ∧ Hid (∃ L', SetAt wr b g L' ∧ L'.length = 300 ∧ GS N g bk w wr bl bs bw bt b B1 b1 g1 B2 b2 g2 b4 g4 left L (.slice aw (allL L).length cw) (.slice at' (flat (gapsL L)).length ct) ∧ wr.heap[D]? = some (.deferred (some [])) ∧ wr.heap[D2]? = some (.deferred (some []))))
          case atStart => exact ⟨0, by omega, rfl, H6⟩
          case round =>
            clear H6
            obtain ⟨j2, hkj2, rfl, hR⟩ := hrel
            by_cases hgo : j2 < m2 ∧ j2 < 1000
            · obtain ⟨hjm, hj1⟩ := hgo
              have hjm' : (j2 : Int) < (m2 : Int) := by omega
              have hj1' : (j2 : Int) < 1000 := by omega
              have hj0 : (0 : Int) ≤ (j2 : Int) := by omega
              obtain ⟨L', hSL, hlL, hGL, hDa, hDb⟩ := hR.out
              obtain ⟨_, _, _, hys, hbt2⟩ := H.out
              have hj : j2 < ys.length := by omega
              obtain ⟨a, rfl, hca⟩ := hbt2 j2 (.int .i64 ys[j2]) (by simp [hj])
              have hca' := hGL.grown.cell hca (by simp)
              have hcs := hGL.sbox.cell
              have hne : (a.add j2).block ≠ g := by have := World.block_lt_of_cell? w _ hca; omega
              have hbg : bs ≠ g := hGL.fr.2.1.2.1
              generalize ys[j2] = x at *
              have HR := hide (And.intro hSL (And.intro hlL (And.intro hGL (And.intro hDa hDb))))
              have hSd := hide (hSL.kept (grown_drew wr none) (by simp) (by simp))
              clear hbt2 hys hj hca hSL hlL hGL hDa hDb hR
              go_wp2_with fail
              go_region_held3 (fun w' => w'.cell? ⟨bs, 0, none⟩ = some (.pointer (some ⟨b, 0, none⟩)) ∧ w'.cell? (a.add j2) = some (.int .i64 x)) (first | assumption | go_keep)
                ((first
                  | (go_at_call 12; refine (pick300 x _).mono ?_; rintro e wA ⟨rfl, rfl⟩)
                  | (go_at_call 24; refine (put_int b g L' _ _ hSd.out).mono ?_; rintro e wB ⟨rfl, hSB, hgB⟩; have hcB := And.intro (hgB.cell hcs (by simpa using hbg)) (hgB.cell hca' (by simpa using hne)))))
              have HN2 : Hid (∃ L', SetAt wB b g L' ∧ L'.length = 300 ∧ GS N g bk w wB bl bs bw bt b B1 b1 g1 B2 b2 g2 b4 g4 left L (.slice aw (allL L).length cw) (.slice at' (flat (gapsL L)).length ct) ∧ wB.heap[D]? = some (.deferred (some [])) ∧ wB.heap[D2]? = some (.deferred (some []))) := by
                obtain ⟨h1, h2, h3, h4, h5⟩ := HR.out
                have hd1 : wr.drew.heap[D]? = some (.deferred (some [])) := h4
                have hd2 : wr.drew.heap[D2]? = some (.deferred (some [])) := h5
                exact ⟨_, hSB, (putF_length L' _).trans h2, (h3.kept (grown_drew wr none)).but2 (But2.of hgB (h3.kept (grown_drew wr none)).le (fun k e => by cases e; exact Or.inl rfl)), (hgB.block D (row_lt hd1) (by simp; omega)).trans hd1, (hgB.block D2 (row_lt hd2) (by simp; omega)).trans hd2⟩
              clear hSB hgB hcB hSd HR
              go_wp2
              go_roundg (gk - 1)
              case measure => omega
              case rel => exact ⟨j2 + 1, by omega, by go_num, HN2⟩
            · have hex : ¬ (j2 : Int) < (m2 : Int) ∨ ((j2 : Int) < (m2 : Int) ∧ ¬ (j2 : Int) < 1000) := by omega
              clear hgo
              rcases hex with hx | ⟨hx, hx2⟩
              all_goals
                obtain ⟨L', hSL, hlL, hGL, hDa, hDb⟩ := hR.out
                have H7 := hide (And.intro hGL (And.intro hDa hDb))
                clear hSL hlL hGL hDa hDb hR
                go_wp2_with fail
                refine (told_any _ L wr ⟨B1, _, rfl, H7.out.1.it1.mono H7.out.1.le, by have := hL3.out; omega⟩).mono ?_
                rintro e wa ⟨va, rfl, hva, hga⟩
                obtain ⟨aa, ca, rfl, -, -, -, hata, -, -⟩ := own_at hva
                have H8 := hide (And.intro hata (GS.kept2 H7.out hga))
                clear hva hga hata H7
                go_wp2_with fail
                refine (pairs_any _ L wa ⟨B2, _, rfl, H8.out.2.1.it2.mono H8.out.2.1.le, by have := hL3.out; omega⟩).mono ?_
                rintro e wb ⟨vb, rfl, hvb, hgb⟩
                obtain ⟨ab, cb, rfl, -, -, -, hatb, -, -⟩ := own_at hvb
                have H9 := hide (And.intro (H8.out.1.grown hgb) (And.intro hatb (GS.kept2 H8.out.2 hgb)))
                clear hvb hgb hatb H8
                go_wp2_with fail
                refine (all_any _ L wb (Or.inl ⟨b4, g4, rfl, H9.out.2.2.1.s4⟩) H9.out.2.2.1.tab (by have := hL3.out; omega)).mono ?_
                rintro e wc ⟨vc, rfl, hV, hgc⟩
                have H10 := hide (And.intro (H9.out.1.grown hgc) (And.intro (H9.out.2.1.grown hgc) (And.intro (GS.kept2 H9.out.2.2 hgc) hV)))
                clear hV hgc H9
                go_wp2_with fail
                refine (told_any vc L wc H10.out.2.2.2).mono ?_
                rintro e wd ⟨vd, rfl, hvd, hgd⟩
                obtain ⟨ad, cd, rfl, -, -, -, hatd, -, -⟩ := own_at hvd
                have H11 := hide (And.intro (H10.out.1.grown hgd) (And.intro (H10.out.2.1.grown hgd) (And.intro hatd (GS.kept2 H10.out.2.2.1 hgd))))
                have hcw1 := H11.out.2.2.2.1.wbox.cell
                clear hvd hgd hatd H10
                have hlA : (allL L).length ≤ 300 := by have := allL_length L; have := hL3.out; omega
                have hlG : (flat (gapsL L)).length ≤ 600 := by rw [flat_length]; have := gapsL_length L; have := hL3.out; omega
                go_wp2_with fail
                obtain ⟨_, _, hv, -, -, -, hatw, -, -⟩ := own_at H11.out.2.2.2.1.wrow
                cases hv
                have hs1 := sameInts_eq aa aw (allL L).length ca cw ((allL L).map fun (x : Nat) => (x : Int)) wd (by simp) (by rw [← intsV_cast']; exact H11.out.1) (by rw [← intsV_cast']; exact hatw) (by omega)
                refine hs1.mono ?_
                clear hs1 hatw
                rintro e we ⟨rfl, hge⟩
                have H12 := hide (And.intro (H11.out.2.1.grown hge) (And.intro (H11.out.2.2.1.grown hge) (GS.kept2 H11.out.2.2.2 hge)))
                have hct1 := H12.out.2.2.1.tbox.cell
                clear hge H11 hcw1
                go_wp2_with fail
                obtain ⟨_, _, hv, -, -, -, hatt, -, -⟩ := own_at H12.out.2.2.1.trow
                cases hv
                have hs2 := sameInts_eq ab at' (flat (gapsL L)).length cb ct ((flat (gapsL L)).map fun (x : Nat) => (x : Int)) we (by simp) (by rw [← intsV_cast']; exact H12.out.1) (by rw [← intsV_cast']; exact hatt) (by omega)
                refine hs2.mono ?_
                clear hs2 hatt
                rintro e wf ⟨rfl, hgf⟩
                have H13 := hide (And.intro (H12.out.2.1.grown hgf) (GS.kept2 H12.out.2.2 hgf))
                have hcw2 := H13.out.2.1.wbox.cell
                clear hgf H12 hct1
                go_wp2_with fail
                obtain ⟨_, _, hv, -, -, -, hatw, -, -⟩ := own_at H13.out.2.1.wrow
                cases hv
                have hs3 := sameInts_eq ad aw (allL L).length cd cw ((allL L).map fun (x : Nat) => (x : Int)) wf (by simp) (by rw [← intsV_cast']; exact H13.out.1) (by rw [← intsV_cast']; exact hatw) (by omega)
                refine hs3.mono ?_
                clear hs3 hatw
                rintro e wg ⟨rfl, hgg⟩
                have H14 := hide (GS.kept2 H13.out.2 hgg)
                clear hgg H13 hcw2
                go_wp2
                obtain ⟨hGz, hDz, hD2z⟩ := H14.out
                have hne2 : D ≠ D2 := by omega
                have hD1 : (wg.putObj D2 (.deferred none)).heap[D]? = some (.deferred (some [])) := (World.putObj_heap_other (by omega)).trans hDz
                have hwD : w.heap.size ≤ D ∧ w.heap.size ≤ D2 := by have := hGz.lo; omega
                refine ⟨by simp, .inl ⟨_, _, rfl, run_takeDeferred hD2z, ?_⟩⟩
                refine ⟨by simp, .inl ⟨_, _, rfl, run_takeDeferred hD1, ?_⟩⟩
                exact ⟨_, results_tmp rfl _ _ _, rfl, grown_then (grown_then hGz.grown (grownBy_putObj' _ D2 _) (fun k e => by cases e; exact Or.inl hwD.2)) (grownBy_putObj' _ D _) (fun k e => by cases e; exact Or.inl hwD.1)⟩
end Go.Proofs.YtajdgkbeenalkaaDoor
