/- The contract of awake. -/
import Derived.Test.YtgcfjphjekkkmaaOwn
namespace Go.Proofs.Ytgcfjphjekkkmaa
open Go.RowKit Ap
attribute [local go_sem ↓] Go.wp_at_zero Go.wp_at_succ

theorem may_2_64 : mayB 2 64 = true := by decide
theorem may_4_64 : mayB 4 64 = true := by decide
theorem may_1_64 : mayB 1 64 = true := by decide

theorem news_at {w : World} {ad : Addr} {ys : List Nat} (h : At w (some ad) ys) : ∀ j u, (bv ys)[j]? = some u → w.cell? (ad.add j) = some u := by
  intro i v hv
  rw [bv, List.getElem?_map] at hv
  cases hj : ys[i]? with
  | none => simp [hj] at hv
  | some y =>
    simp [hj] at hv
    obtain ⟨a', ea', hc'⟩ := h i y hj
    cases ea'
    rw [← hv]; exact hc'
theorem bv_one (ys : List Nat) : ∀ u ∈ bv ys, u.oneCell' = true := by
  intro v hv; rw [bv, List.mem_map] at hv; obtain ⟨y, _, rfl⟩ := hv; rfl
/-- The world behind New, two fills and two writes, as it is in awake. -/
theorem awake_found (A B : List Nat) (hA : A.length = 64) (hB : B.length = 64) (p q : Nat) :
    found 64 (stl 64 (fun i => lasts (fateK [(1, 0), (2, 3)] i) (fateA [(1, 0), (2, 3)] i) 64) (zs (2 * 64)) [⟨1, p, A⟩, ⟨1, q, B⟩] 2) [] 1 = B.take 3 ++ A.drop 3 := by
  have hF : Fits 2 64 [⟨1, p, A⟩, ⟨1, q, B⟩] := by
    intro x hx
    simp at hx
    rcases hx with rfl | rfl
    · exact ⟨by show 1 < 2; omega, hA⟩
    · exact ⟨by show 1 < 2; omega, hB⟩
  show secOf 64 _ 1 = _
  rw [secOf_stl (n := 2) (zs_length _) hF]
  have l0 : lasts (fateK [(1, 0), (2, 3)] 0) (fateA [(1, 0), (2, 3)] 0) 64 = 64 := rfl
  have l1 : lasts (fateK [(1, 0), (2, 3)] 1) (fateA [(1, 0), (2, 3)] 1) 64 = 3 := by decide
  simp only [stlS, List.getElem?_cons_zero, List.getElem?_cons_succ, if_true, l0, l1]
  rw [List.take_of_length_le (Nat.le_of_eq hA)]
  have e : over A (secOf 64 (zs (2 * 64)) 1) = A := by
    rw [zs_sec 2 64 1 (by omega), over, List.drop_eq_nil_of_le (by simp [zs, hA]), List.append_nil]
  rw [e, over]
  simp [hB]

theorem fill_some (a : Int) (n : Nat) (hn : n ≤ 140737488355328) (w : World) :
    Calls Try.prog 30 #[.int .i64 a, .int .i64 (n : Int)] w fun e w' => ∃ xs : List Nat, xs.length = n ∧ e = .returned (.slice (some ⟨w.heap.size, 0, none⟩) n n) ∧ w'.heap[w.heap.size]? = some (.cells (bv xs).toArray 5 (0, 0)) ∧ w.grownBy w' none :=
  (fill_any a n hn w).mono fun _ _ h => ⟨fills a n, fills_length _ _, h⟩
set_option maxRecDepth 20000 in
set_option maxHeartbeats 4000000 in
theorem awake_any (w : World) : Calls Try.prog 9 #[] w fun e w' => e = .returned (.bool true) ∧ w.grownBy w' none := by
  have HN := hide (newS 2 64 w w (grown_refl _ _) may_2_64)
  go_enter Try.func9, Try.ntmps9
  go_wp2_with fail
  refine HN.out.mono ?_
  rintro e w1 ⟨k1, rfl, d1, g1⟩
  have D1 := hide d1
  clear d1 g1 HN
  obtain ⟨d, hd⟩ : ∃ d, d = k1.d := ⟨_, rfl⟩
  rw [← hd]
  have HD := hide hd
  clear hd
  go_wp2_with fail
  refine (fill_some 65 64 (by omega) _).mono ?_
  rintro e w2 ⟨XA, lA, rfl, a2, g2⟩
  have LA := hide lA
  clear lA
  have D2 := hide (And.intro (D1.out.then g2) a2)
  clear a2 g2
  go_wp2_with fail
  refine (fill_some 66 64 (by omega) _).mono ?_
  rintro e w3 ⟨XB, lB, rfl, a3, g3⟩
  have LB := hide lB
  clear lB
  have D3 := hide (And.intro (D2.out.1.then g3) (And.intro ((g3.block _ (row_lt D2.out.2) (by simp)).trans D2.out.2) a3))
  have N3 : Hid (w1.heap.size ≠ k1.db ∧ w2.heap.size ≠ k1.db) := by
    have h1 := D1.out.disk.lt k1.db (.inl (.inr (.inl rfl)))
    have h2 := D2.out.1.disk.lt k1.db (.inl (.inr (.inl rfl)))
    exact ⟨by omega, by omega⟩
  clear a3 g3 D2 D1
  generalize w1.heap.size = A at *
  generalize w2.heap.size = B at *
  have HX := hide (fun a => writeS HD.out.symm D3.out.1 (by simp) 1 (by omega) (some ⟨a, 0, none⟩) 64 XA)
  go_wp2_with fail
  refine (HX.out A (at_row D3.out.2.1) LA.out).mono ?_
  rintro e w4 ⟨rfl, k4, e1, e2, d4, x4⟩
  have D4 := hide (And.intro e1 (And.intro e2 (And.intro d4 (And.intro (x4.bytes D3.out.1.disk D3.out.2.1) (x4.bytes D3.out.1.disk D3.out.2.2)))))
  clear e1 e2 d4 x4 HX
  have HX := hide (fun a => writeS D4.out.1 D4.out.2.2.1 (by simp) 1 (by omega) (some ⟨a, 0, none⟩) 64 XB)
  go_wp2_with fail
  refine (HX.out B (at_row D4.out.2.2.2.2) LB.out).mono ?_
  rintro e w5 ⟨rfl, k5, e1, e2, d5, x5⟩
  have D5 := hide (And.intro e1 (And.intro (e2.trans D4.out.2.1) (And.intro d5 (And.intro (x5.bytes D4.out.2.2.1.disk D4.out.2.2.2.1) (x5.bytes D4.out.2.2.1.disk D4.out.2.2.2.2)))))
  clear e1 e2 d5 x5 HX
  have g6 := World.grownBy_alloc w5 (.cells #[.int .i64 1, .int .i64 0, .int .i64 2, .int .i64 3] 69) none
  have HX := hide (crashS D5.out.1 (D5.out.2.2.1.then g6) (some ⟨w5.heap.size, 0, none⟩) 2 2 [(1, 0), (2, 3)] rfl (fates_row (heap_alloc_new w5 _)) (fun a e => by cases e; exact Nat.ne_of_gt (D5.out.2.2.1.disk.lt _ (.inl (.inr (.inl rfl))))))
  have A6 := hide (And.intro ((g6.block _ (row_lt D5.out.2.2.2.1) (by simp)).trans D5.out.2.2.2.1) (And.intro ((g6.block _ (row_lt D5.out.2.2.2.2) (by simp)).trans D5.out.2.2.2.2) (D5.out.2.2.1.disk.grown g6)))
  clear g6
  go_wp2_with fail
  refine HX.out.mono ?_
  rintro e w7 ⟨rfl, d7, x7⟩
  have D7 := hide (And.intro d7 (And.intro (calm_bytes A6.out.2.2 x7 A6.out.1 (by rw [D5.out.2.1]; exact N3.out.1)) (calm_bytes A6.out.2.2 x7 A6.out.2.1 (by rw [D5.out.2.1]; exact N3.out.2))))
  clear d7 x7 HX
  have HX := hide (readS (show (Dk.calm k5).d = d from D5.out.1) D7.out.1 1 (by omega))
  go_wp2_with fail
  refine HX.out.mono ?_
  rintro e w8 ⟨rfl, a8, g8⟩
  have D8 := hide (And.intro (D7.out.1.then g8) (And.intro ((g8.block _ (row_lt D7.out.2.1) (by simp)).trans D7.out.2.1) (And.intro ((g8.block _ (row_lt D7.out.2.2) (by simp)).trans D7.out.2.2) a8)))
  clear a8 g8 HX
  generalize w7.heap.size = C at *
  go_wp2_with fail
  obtain ⟨i0, hi, hz0, hz1, hz2⟩ := info_parts Try.info5
  have HI := hide (And.intro hi (And.intro hz0 (And.intro hz1 hz2)))
  have g9 := World.grownBy_alloc w8.drew (.cells #[] 5) none
  have r0 := World.ownsRow_made (base := w8.heap.size) (e := 5) (size := 1) w8.drew #[] 0 (Nat.le_refl _) (Nat.zero_le _) rfl
  have lA8 := row_lt D8.out.2.1
  have HR := hide (And.intro g9 (And.intro r0 (And.intro (at_row ((g9.block _ (row_lt D8.out.2.2.1) (by simp)).trans D8.out.2.2.1)) (And.intro ((g9.block _ lA8 (by simp)).trans D8.out.2.1) lA8))))
  clear hi hz0 hz1 hz2 g9 r0 lA8
  go_region_held3 (fun w' => True) (trivial) (first
    | (have hx := HR; clear hx; refine step_append_lies _ rfl (.tmp 39) (.tmp 41) 46 rfl w8.heap.size 5 i0 (.int .u8 0) 1 1 Try.underlying46 HI.out.1 HI.out.2.1 HI.out.2.2.1 HI.out.2.2.2 rfl (by decide) (.slice (some ⟨w8.heap.size, 0, none⟩) 0 0) 0 [] rfl HR.out.2.1 ⟨B, 0, none⟩ 3 64 (bv (XB.take 3)) rfl (by have := LA.out; have := LB.out; simp [bv_length]; omega) (news_at (HR.out.2.2.1.take 3)) (bv_one _) (by omega) (by unfold maxLen; omega) (by omega) HR.out.1.size (w8.heap.size + 1) (Array.size_push ..) ?_; intro g1 cap1 w9 o1 gr1 lo1 lt1; have R1 := hide (And.intro o1 (And.intro gr1 (And.intro lo1 (And.intro lt1 (grown_trans (grown_none HR.out.1 (some w8.heap.size)) gr1))))); clear o1 gr1 lo1 lt1)
    | (have hx := R1; clear hx; refine step_append_lies _ rfl (.tmp 42) (.tmp 44) 46 rfl w8.heap.size 5 i0 (.int .u8 0) 1 1 Try.underlying46 HI.out.1 HI.out.2.1 HI.out.2.2.1 HI.out.2.2.2 rfl (by decide) (.slice (some ⟨g1, 0, none⟩) 3 cap1) 3 _ rfl R1.out.1 ⟨A, 3, none⟩ 61 61 (bv (XA.drop 3)) rfl (by have := LA.out; have := LB.out; simp [bv_length]; omega) (news_at (at_drop ((R1.out.2.2.2.2.block A HR.out.2.2.2.2 (fun e => Nat.ne_of_lt HR.out.2.2.2.2 (Option.some.inj e))).trans D8.out.2.1) 3)) (bv_one _) (by omega) (by unfold maxLen; omega) (by omega) R1.out.2.2.2.2.size w9.heap.size rfl ?_; intro g2 cap2 w10 o2 gr2 lo2 lt2; have R2 := hide (And.intro o2 (And.intro gr2 (And.intro lo2 lt2))); clear o2 gr2 lo2 lt2))
  have G9 : w8.grownBy w9 none := grown_then (grown_drew w8 none) R1.out.2.2.2.2 (fun j e => by cases e; exact Or.inl (Nat.le_refl _))
  have G10 : w8.grownBy w10 none := grown_then G9 R2.out.2.1 (fun j e => by
    have e : g1 = j := Option.some.inj e
    have := R1.out.2.2.1
    rcases this with h | h
    · have h : w8.heap.size = g1 := Option.some.inj h
      omega
    · omega)
  have hF := awake_found XA XB LA.out LB.out w3.heap.size w4.heap.size
  have hC : w10.heap[C]? = some (.cells (bv (XB.take 3 ++ XA.drop 3)).toArray 5 (0, 0)) := by
    rw [← hF]
    exact (G10.block _ (row_lt D8.out.2.2.2) (by simp)).trans D8.out.2.2.2
  have h6 : At w10 (some ⟨g2, 0, none⟩) (XB.take 3 ++ XA.drop 3) := by
    obtain ⟨ao, cap, e1, _, _, _, h6, _⟩ := own_at (xs := XB.take 3 ++ XA.drop 3) (by rw [bv_append]; exact R2.out.1)
    cases e1; exact h6
  have HS := hide (sameBytes_eq (some ⟨C, 0, none⟩) (some ⟨g2, 0, none⟩) 64 64 cap2 _ w10 (by have := LA.out; have := LB.out; simp; omega) (at_row hC) h6 (by omega))
  have HW := hide (fun q => waitingS (w := w10.drewN q) (show (Dk.calm k5).d = d from D5.out.1) ((D8.out.1.then G10).then (grown_drewN _ _ _)))
  have HG := hide (grown_trans D8.out.1.grown G10)
  clear hF hC h6 G9 G10 HI HR R1 R2 D7 A6
  go_wp2_with fail
  refine HS.out.mono ?_
  rintro e w11 ⟨rfl, q, rfl⟩
  go_wp2_with fail
  refine (HW.out q).mono ?_
  rintro e w12 ⟨rfl, rfl⟩
  go_wp2
  go_ret
  exact ⟨rfl, grown_trans HG.out (grown_drewN _ _ _)⟩
end Go.Proofs.Ytgcfjphjekkkmaa
