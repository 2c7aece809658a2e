/- CabinChecks: the walk. -/
import Derived.Test.YtomoclicbjkpoaaDoorEd
namespace Go.Proofs.YtomoclicbjkpoaaDoor
open Go.RowKit Cx
attribute [local go_sem ↓] Go.wp_at_zero Go.wp_at_succ

/-- All that lies there while a cabin is lent. -/
structure CkS (w wk : World) (b b2 g vc : Nat) (R W : Int) (ao : Option Addr) (n cap : Nat) (L : List Int) : Prop where
  grown : w.grownBy wk none
  box : wk.heap[b]? = some (.cells #[.int .i64 R, .int .i64 W, .slice ao n cap] 24 (0, 0))
  box2 : wk.heap[b2]? = some (.cells #[.int .i64 R, .int .i64 W, .slice (some ⟨g, 0, none⟩) L.length vc] 24 (0, 0))
  lent : LentAt wk w.heap.size (.slice (some ⟨g, 0, none⟩) L.length vc) L
theorem CkS.next {w wk w' : World} {b b2 g vc : Nat} {R W : Int} {ao : Option Addr} {n cap : Nat} {L : List Int} (h : CkS w wk b b2 g vc R W ao n cap L) (hg : wk.grownBy w' none) : CkS w w' b b2 g vc R W ao n cap L :=
  ⟨grown_trans h.grown hg, heap_kept h.box hg (by simp), heap_kept h.box2 hg (by simp), h.lent.grown hg⟩
theorem CkS.cb {w wk : World} {b b2 g vc : Nat} {R W : Int} {ao : Option Addr} {n cap : Nat} {L : List Int} (h : CkS w wk b b2 g vc R W ao n cap L) (hs : L.length ≤ 17592186044000) : CbIn wk (some ⟨g, 0, none⟩) L.length vc L := by
  obtain ⟨g', c', e, hc⟩ := h.lent.cb hs
  cases e
  exact hc
theorem span_kept {w w' : World} {base n k : Nat} {v : Value} {xs : List Value} {c : Array Value} {t : TypeId} {fr : Nat × Nat} (h : w.ownsRow base 53 2 v n xs) (hg : w.grownBy w' (some k)) (hk : w.heap[k]? = some (.cells c t fr)) (hne : t ≠ 53) : w'.ownsRow base 53 2 v n xs := by
  obtain ⟨hl, h⟩ := h
  refine ⟨hl, ?_⟩
  rcases h with h | ⟨g, cap, cur, rfl, hb, hgc, hr⟩
  · exact Or.inl h
  · refine Or.inr ⟨g, cap, cur, rfl, hb, heap_kept hgc hg ?_, hr⟩
    intro e
    cases e
    rw [hk] at hgc
    cases hgc
    exact hne rfl
set_option maxHeartbeats 2000000 in
theorem checks_ok (R W : Nat) (ao : Option Addr) (n cap : Nat) (L : List Int) (w : World) (hE : Er w) (hc : CbIn w ao n cap L) (ho : Ok R W L) :
    Calls Tryd.prog 3 #[cbV R W (.slice ao n cap)] w fun e w' => e = .returned (.bool true) ∧ w.grownBy w' none := by
  obtain rfl : L.length = n := hc.len
  have A := hide (fun w' (hg : w.grownBy w' none) => awake_any w' (hE.grown hg))
  have LC := hide (fun w' (hg : w.grownBy w' none) => lentCabin_any R W ao L.length cap L w' (hc.grown hg))
  have hsm : L.length ≤ 17592186044000 := hc.sm
  have HC := hide hc
  have HO := hide ho
  obtain ⟨N, hN⟩ : ∃ N, N = R * W := ⟨_, rfl⟩
  have hNN : (R : Int) * (W : Int) = (N : Int) := by rw [hN, Int.natCast_mul]
  have hN2 : N ≤ 64 * 16 := by rw [hN]; exact Nat.mul_le_mul (by have := ho.2.1; omega) (by have := ho.2.2.2.1; omega)
  have hwr : IntKind.i64.wrap ((R : Int) * (W : Int)) = (N : Int) := by rw [hNN]; exact IntWalk.i64_in _ (by omega)
  have HNN := hide (And.intro hN hNN)
  clear hN hNN
  clear hc hE ho
  unfold cbV at *
  go_enter Tryd.func3, Tryd.ntmps3
  go_wp2_with fail
  refine (A.out _ (grown_alloc w _)).mono ?_
  rintro e w1 ⟨rfl, hg1⟩
  have hb1 := box_kept hg1
  have G1 := hide (And.intro (grown_trans (grown_alloc w _) hg1) hb1)
  obtain ⟨c0, c1, c2⟩ := box3 hb1
  clear hg1 hb1
  go_wp2_with fail
  refine (LC.out _ G1.out.1).mono ?_
  rintro e w2 ⟨v, rfl, hl, hg2⟩
  obtain ⟨g, vc, rfl, -⟩ := hl.all
  have S3 : Hid (CkS w (w2.alloc (.cells #[.int .i64 R, .int .i64 W, .slice (some ⟨g, 0, none⟩) L.length vc] 24)) w.heap.size w2.heap.size g vc R W ao L.length cap L) :=
    ⟨grown_trans (grown_trans G1.out.1 hg2) (grown_alloc _ _), heap_kept (heap_kept G1.out.2 hg2 (by simp)) (grown_alloc _ _) (by simp), heap_alloc_new w2 _, (hl.base G1.out.1.size).grown (grown_alloc _ _)⟩
  clear hl hg2 G1 c0 c1 c2
  obtain ⟨c0, c1, c2⟩ := box3 S3.out.box2
  go_wp2_with fail
  have X := check_any R W (some ⟨g, 0, none⟩) L.length vc L _ (S3.out.cb hsm)
  rw [code_ok HO.out] at X
  refine X.mono ?_
  clear X
  rintro e w4 ⟨rfl, hg⟩
  have S4 := hide (S3.out.next hg)
  clear c0 c1 c2 hg S3
  obtain ⟨c0, c1, c2⟩ := box3 S4.out.box2
  generalize w2.heap.size = b2 at *
  go_wp2_with fail
  have X := seats_any R W (some ⟨g, 0, none⟩) L.length vc L _ (S4.out.cb hsm)
  rw [code_ok HO.out, if_pos HO.out, HNN.out.2] at X
  refine X.mono ?_
  clear X
  rintro e w5 ⟨rfl, hg⟩
  have S5 := hide (S4.out.next hg)
  clear c0 c1 c2 hg S4
  obtain ⟨c0, c1, c2⟩ := box3 S5.out.box2
  go_wp2_with fail
  refine (blocks_ok R W (some ⟨g, 0, none⟩) L.length vc L _ (S5.out.cb hsm) HO.out).mono ?_
  rintro e w6 ⟨v7, rfl, hown, hg⟩
  obtain ⟨vo, vvc, rfl⟩ := span_form hown
  have S6 := hide (And.intro (S5.out.next hg) hown)
  clear c0 c1 c2 hg S5 hown
  obtain ⟨c0, c1, c2⟩ := box3 S6.out.1.box
  go_wp2_with fail
  have X := dcheck_any R W ao L.length cap L _ (HC.out.grown S6.out.1.grown)
  rw [code_ok HO.out] at X
  refine X.mono ?_
  clear X
  rintro e w7 ⟨rfl, hg⟩
  have S7 := hide (And.intro (S6.out.1.next hg) (span_grown S6.out.2 hg))
  clear c0 c1 c2 hg S6
  obtain ⟨c0, c1, c2⟩ := box3 S7.out.1.box
  go_wp2_with fail
  refine (dblocks_ok R W ao L.length cap L _ (HC.out.grown S7.out.1.grown) HO.out).mono ?_
  rintro e w8 ⟨v8, rfl, hown, hg⟩
  obtain ⟨uo, uc, rfl⟩ := span_form hown
  have S8 := hide (And.intro (S7.out.1.next hg) (And.intro (span_grown S7.out.2 hg) hown))
  clear c0 c1 c2 hg S7 hown
  obtain ⟨c0, c1, c2⟩ := box3 S8.out.1.box
  obtain ⟨d0, d1, d2⟩ := box3 S8.out.1.box2
  obtain ⟨g', vc', e1, l1, l2, l3, l4, l5, l6⟩ := S8.out.1.lent.all
  cases e1
  have HL := hide (And.intro l1 (And.intro l2 (And.intro l3 (And.intro l5 l6))))
  clear l1 l2 l3 l4 l5 l6
  go_wp2_with fail
  refine (keptCabin_any R W g vc ao L.length cap L _ rfl HL.out.1 HL.out.2.1 HL.out.2.2.2.1 (HC.out.at_.grown S8.out.1.grown) (by omega)).mono ?_
  rintro e w9 ⟨rfl, hg⟩
  have S9 := hide (And.intro (S8.out.1.next hg) (And.intro (span_grown S8.out.2.1 hg) (span_grown S8.out.2.2 hg)))
  have HL9 : Hid (∃ cur, w9.heap[g]? = some (.cells cur 3 (0, 0)) ∧ cur.size = vc) := by
    obtain ⟨cur, h1, h2⟩ := HL.out.2.2.2.2
    exact ⟨cur, heap_kept h1 hg (by simp), h2⟩
  clear c0 c1 c2 d0 d1 d2 hg S8
  obtain ⟨c0, c1, c2⟩ := box3 S9.out.1.box2
  go_wp2_with fail
  refine (overCabin_any R W g vc L.length _ HL9.out HL.out.1 HL.out.2.1 (by omega)).mono ?_
  rintro e wA ⟨rfl, hg⟩
  obtain ⟨cur, hcur, -⟩ := HL9.out
  have hne : some w.heap.size ≠ some g := by
    intro e
    have e2 : w.heap.size = g := by simpa using e
    have h1 := S9.out.1.box
    rw [e2, hcur] at h1
    cases h1
  have SA := hide (And.intro (grown_new S9.out.1.grown hg HL.out.2.2.1) (And.intro (heap_kept S9.out.1.box hg hne) (And.intro (span_kept S9.out.2.1 hg hcur (by decide)) (span_kept S9.out.2.2 hg hcur (by decide)))))
  clear c0 c1 c2 hg S9 hcur hne
  obtain ⟨c0, c1, c2⟩ := box3 SA.out.2.1
  have hpl := prg_len_le W L (R * W)
  rw [← HNN.out.1] at hpl
  rw [← HNN.out.1] at SA
  rw [← HNN.out.1]
  go_wp2_with fail
  refine (sameSpans_eq SA.out.2.2.1 SA.out.2.2.2 (by omega)).mono ?_
  rintro e wB ⟨rfl, hg⟩
  have SB := hide (grown_trans SA.out.1 hg)
  clear hg
  go_wp2
  go_ret
  exact ⟨rfl, SB.out⟩
set_option maxHeartbeats 2000000 in
theorem checks_no (R W : Int) (ao : Option Addr) (n cap : Nat) (L : List Int) (w : World) (hE : Er w) (hc : CbIn w ao n cap L) (ho : ¬ Ok R W L) :
    Calls Tryd.prog 3 #[cbV R W (.slice ao n cap)] w fun e w' => e = .returned (.bool true) ∧ w.grownBy w' none := by
  obtain rfl : L.length = n := hc.len
  have A := hide (fun w' (hg : w.grownBy w' none) => awake_any w' (hE.grown hg))
  have LC := hide (fun w' (hg : w.grownBy w' none) => lentCabin_any R W ao L.length cap L w' (hc.grown hg))
  have hsm : L.length ≤ 17592186044000 := hc.sm
  have HC := hide hc
  have HO := hide ho
  clear hc hE ho
  unfold cbV at *
  go_enter Tryd.func3, Tryd.ntmps3
  go_wp2_with fail
  refine (A.out _ (grown_alloc w _)).mono ?_
  rintro e w1 ⟨rfl, hg1⟩
  have hb1 := box_kept hg1
  have G1 := hide (And.intro (grown_trans (grown_alloc w _) hg1) hb1)
  obtain ⟨c0, c1, c2⟩ := box3 hb1
  clear hg1 hb1
  go_wp2_with fail
  refine (LC.out _ G1.out.1).mono ?_
  rintro e w2 ⟨v, rfl, hl, hg2⟩
  obtain ⟨g, vc, rfl, -⟩ := hl.all
  have S3 : Hid (CkS w (w2.alloc (.cells #[.int .i64 R, .int .i64 W, .slice (some ⟨g, 0, none⟩) L.length vc] 24)) w.heap.size w2.heap.size g vc R W ao L.length cap L) :=
    ⟨grown_trans (grown_trans G1.out.1 hg2) (grown_alloc _ _), heap_kept (heap_kept G1.out.2 hg2 (by simp)) (grown_alloc _ _) (by simp), heap_alloc_new w2 _, (hl.base G1.out.1.size).grown (grown_alloc _ _)⟩
  clear hl hg2 G1 c0 c1 c2
  obtain ⟨c0, c1, c2⟩ := box3 S3.out.box2
  go_wp2_with fail
  have X := check_any R W (some ⟨g, 0, none⟩) L.length vc L _ (S3.out.cb hsm)
  rw [code_no HO.out] at X
  refine X.mono ?_
  clear X
  rintro e w4 ⟨rfl, hg⟩
  have S4 := hide (S3.out.next hg)
  clear c0 c1 c2 hg S3
  obtain ⟨c0, c1, c2⟩ := box3 S4.out.box2
  generalize w2.heap.size = b2 at *
  go_wp2_with fail
  have X := seats_any R W (some ⟨g, 0, none⟩) L.length vc L _ (S4.out.cb hsm)
  rw [code_no HO.out, if_neg HO.out] at X
  refine X.mono ?_
  clear X
  rintro e w5 ⟨rfl, hg⟩
  have S5 := hide (S4.out.next hg)
  clear c0 c1 c2 hg S4
  obtain ⟨c0, c1, c2⟩ := box3 S5.out.box2
  go_wp2_with fail
  refine (blocks_bad R W (some ⟨g, 0, none⟩) L.length vc L _ (S5.out.cb hsm) HO.out).mono ?_
  rintro e w6 ⟨rfl, hg⟩
  have S6 := hide (And.intro (S5.out.next hg) trivial)
  clear c0 c1 c2 hg S5
  obtain ⟨c0, c1, c2⟩ := box3 S6.out.1.box
  go_wp2_with fail
  have X := dcheck_any R W ao L.length cap L _ (HC.out.grown S6.out.1.grown)
  rw [code_no HO.out] at X
  refine X.mono ?_
  clear X
  rintro e w7 ⟨rfl, hg⟩
  have S7 := hide (And.intro (S6.out.1.next hg) trivial)
  clear c0 c1 c2 hg S6
  obtain ⟨c0, c1, c2⟩ := box3 S7.out.1.box
  go_wp2_with fail
  refine (dblocks_bad R W ao L.length cap L _ (HC.out.grown S7.out.1.grown) HO.out).mono ?_
  rintro e w8 ⟨rfl, hg⟩
  have S8 := hide (And.intro (S7.out.1.next hg) trivial)
  clear c0 c1 c2 hg S7
  obtain ⟨c0, c1, c2⟩ := box3 S8.out.1.box
  obtain ⟨d0, d1, d2⟩ := box3 S8.out.1.box2
  obtain ⟨g', vc', e1, l1, l2, l3, l4, l5, l6⟩ := S8.out.1.lent.all
  cases e1
  have HL := hide (And.intro l1 (And.intro l2 (And.intro l3 (And.intro l5 l6))))
  clear l1 l2 l3 l4 l5 l6
  go_wp2_with fail
  refine (keptCabin_any R W g vc ao L.length cap L _ rfl HL.out.1 HL.out.2.1 HL.out.2.2.2.1 (HC.out.at_.grown S8.out.1.grown) (by omega)).mono ?_
  rintro e w9 ⟨rfl, hg⟩
  have S9 := hide (And.intro (S8.out.1.next hg) trivial)
  have HL9 : Hid (∃ cur, w9.heap[g]? = some (.cells cur 3 (0, 0)) ∧ cur.size = vc) := by
    obtain ⟨cur, h1, h2⟩ := HL.out.2.2.2.2
    exact ⟨cur, heap_kept h1 hg (by simp), h2⟩
  clear c0 c1 c2 d0 d1 d2 hg S8
  obtain ⟨c0, c1, c2⟩ := box3 S9.out.1.box2
  go_wp2_with fail
  refine (overCabin_any R W g vc L.length _ HL9.out HL.out.1 HL.out.2.1 (by omega)).mono ?_
  rintro e wA ⟨rfl, hg⟩
  obtain ⟨cur, hcur, -⟩ := HL9.out
  have hne : some w.heap.size ≠ some g := by
    intro e
    have e2 : w.heap.size = g := by simpa using e
    have h1 := S9.out.1.box
    rw [e2, hcur] at h1
    cases h1
  have SA := hide (And.intro (grown_new S9.out.1.grown hg HL.out.2.2.1) (And.intro (heap_kept S9.out.1.box hg hne) trivial))
  clear c0 c1 c2 hg S9 hcur hne
  obtain ⟨c0, c1, c2⟩ := box3 SA.out.2.1
  go_wp2
  go_ret
  exact ⟨rfl, SA.out.1⟩
theorem cabinChecks_any (R W : Int) (ao : Option Addr) (n cap : Nat) (L : List Int) (w : World) (hE : Er w) (hc : CbIn w ao n cap L) :
    Calls Tryd.prog 3 #[cbV R W (.slice ao n cap)] w fun e w' => e = .returned (.bool true) ∧ w.grownBy w' none := by
  by_cases ho : Ok R W L
  · obtain ⟨r, rfl⟩ : ∃ r : Nat, R = (r : Int) := ⟨R.toNat, by have := ho.1; omega⟩
    obtain ⟨q, rfl⟩ : ∃ q : Nat, W = (q : Int) := ⟨W.toNat, by have := ho.2.2.1; omega⟩
    exact checks_ok r q ao n cap L w hE hc ho
  · exact checks_no R W ao n cap L w hE hc ho
end Go.Proofs.YtomoclicbjkpoaaDoor
