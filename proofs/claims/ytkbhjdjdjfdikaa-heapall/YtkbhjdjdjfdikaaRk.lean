/- A pair: is. -/
import Derived.Test.YtkbhjdjdjfdikaaRi
import Derived.Test.YtkbhjdjdjfdikaaHn2
import Derived.Deep.QuietTactic
import Derived.Test.YtkbhjdjdjfdikaaRr
import Derived.RangeFuncWrites
import Derived.Deep.RegionHeld3
namespace Go.Proofs.Ytkbhjdjdjfdikaa
open Go.RowKit Ap Go.Shelf
attribute [local go_sem ↓] Go.wp_at_zero Go.wp_at_succ
attribute [local go_sem] Oper.semAt_some
section
variable {w0 w w' : World} {k : Int} {b : Nat} {p q : Hp} {r : Nat} {vl vl' : Value} {E E' X X' : List (Nat × Int)} {N N' M M' B B' : Nat}
set_option maxRecDepth 100000 in
set_option maxHeartbeats 4000000 in
theorem is_tw (t : Tw w0 w k b p r vl E X N N B) (hs : Same E X N) (hk : 0 ≤ k) (hE : E.length ≤ 60000) (hN : N ≤ 60000) (xa : Int) (hx : I64 xa) : Calls Try.prog 12 #[.agg #[.pointer (some ⟨p.h, 0, none⟩), .pointer (some ⟨r, 0, none⟩), .bool (decide (k < 4))], .int .i64 xa] w fun e w' => e = .returned (.bool true) ∧ w.grownBy w' none := by
  obtain ⟨ord, hord⟩ : ∃ ord, ord = decide (k < 4) := ⟨_, rfl⟩
  rw [← hord]
  have HORD := hide hord
  clear hord
  obtain ⟨w1, hw1⟩ : ∃ w1, w1 = (w.alloc (.cells #[.pointer (some ⟨p.h, 0, none⟩), .pointer (some ⟨r, 0, none⟩), .bool ord] 26)).alloc (.cells #[.bool false] 4) := ⟨_, rfl⟩
  have ga := World.grownBy_alloc w (.cells #[.pointer (some ⟨p.h, 0, none⟩), .pointer (some ⟨r, 0, none⟩), .bool ord] 26) none
  have gb := World.grownBy_alloc (w.alloc (.cells #[.pointer (some ⟨p.h, 0, none⟩), .pointer (some ⟨r, 0, none⟩), .bool ord] 26)) (.cells #[.bool false] 4) none
  have g1 : w.grownBy w1 none := by rw [hw1]; exact grown_trans ga gb
  obtain ⟨bx, hbx⟩ : ∃ bx, bx = w.heap.size := ⟨_, rfl⟩
  have hb1 : w1.heap[bx]? = some (.cells [Value.pointer (some ⟨p.h, 0, none⟩), .pointer (some ⟨r, 0, none⟩), .bool ord].toArray 26 (0, 0)) := by rw [hw1, hbx]; exact (gb.block _ (row_lt (heap_alloc_new w _)) (by simp)).trans (heap_alloc_new w _)
  have hb2 : w1.heap[bx + 1]? = some (.cells [Value.bool false].toArray 4 (0, 0)) := by
    rw [hw1, hbx]
    have := heap_alloc_new (w.alloc (.cells #[.pointer (some ⟨p.h, 0, none⟩), .pointer (some ⟨r, 0, none⟩), .bool ord] 26)) (.cells #[.bool false] 4)
    rw [World.size_alloc] at this
    exact this
  have x0 := cell_row hb1 0
  have x1 := cell_row hb1 1
  simp at x0 x1
  obtain ⟨a, one, hga, hgr⟩ := tw_get t hs hE xa hx
  obtain ⟨v, m, hl1, hl2, hl3, hl4⟩ := tw_least t hs hk hE hN
  have hc1 := hga w1 g1
  have hc2 := hgr w1 g1
  have hc3 := hl1 w1 g1
  have HW := hide (And.intro hw1 (And.intro hbx (And.intro g1 (And.intro hb1 (And.intro hb2 (And.intro t hs))))))
  have HL := hide (And.intro hl2 (And.intro hl3 hl4))
  clear hw1 hbx g1 hb1 hb2 ga gb t hs hga hgr hl1 hl2 hl3 hl4
  refine (callsIn_wide (n := 6)).1 (callsIn_of_wp_marks Try.func12 rfl trivial ?_ rfl)
  simp only [Try.ntmps12, List.size_toArray, List.length_cons, List.length_nil, Nat.reduceAdd, Nat.reduceSub, Array.replicate_succ, Array.replicate_zero, List.push_toArray, List.append_toArray, List.nil_append, List.cons_append]
  refine wpIn_wide.2 ?_
  go_wp2_with fail
  rw [← HW.out.1, ← HW.out.2.1]
  refine hc1.mono ?_
  clear hc1
  rintro e wz ⟨rfl, hwz⟩
  obtain rfl := hwz.symm
  go_wp2_with fail
  refine hc2.mono ?_
  clear hc2
  rintro e wz ⟨rfl, hwz⟩
  obtain rfl := hwz.symm
  go_wp2_with fail
  refine hc3.mono ?_
  clear hc3
  rintro e w2 ⟨rfl, g2⟩
  have g02 := grown_trans HW.out.2.2.1 g2
  have hb3 := (g2.block _ (row_lt HW.out.2.2.2.1) (by simp)).trans HW.out.2.2.2.1
  have hb4 := (g2.block _ (row_lt HW.out.2.2.2.2.1) (by simp)).trans HW.out.2.2.2.2.1
  have t2 := HW.out.2.2.2.2.2.1.then g02
  have y0 := cell_row hb3 0
  have y1 := cell_row hb3 1
  have y2 := cell_row hb3 2
  simp at y0 y1 y2
  obtain ⟨-, c1, -⟩ := t2.rf.cells
  obtain ⟨vo, cap, rfl, hcap⟩ := own_formA t2.rf.row
  obtain ⟨T, s2⟩ := t2.hs
  have hlen := fun W (g : w2.grownBy W none) => len_at ((s2.then (lsK_ok k b) g).at_)
  have hle := HW.out.2.2.2.2.2.2.length
  obtain ⟨nE, hnE⟩ : ∃ nE, nE = E.length := ⟨_, rfl⟩
  rw [← hnE] at hlen hle HL ⊢
  rw [hle] at c1 hcap
  have HLN := hide hlen
  have H2 := hide (And.intro g02 (And.intro hb3 (And.intro hb4 (And.intro t2 (And.intro hle hnE)))))
  clear g02 hb3 hb4 t2 hle hnE hlen x0 x1 s2 g2
  obtain ⟨lk, hlk⟩ : ∃ lk, lk = decide (0 < nE) := ⟨_, rfl⟩
  have hlk2 : decide ((0 : Int) < (nE : Int)) = lk := by rw [hlk]; simp
  rw [← hlk]
  have HLK := hide hlk
  clear hlk
  go_upto_region 4 with fail
  go_cut [71] from 41 to 71 (fun s71 wx => s71 = .bool false ∧ ∃ nq, wx = w2.drewN nq)
  case first =>
    go_quiet ((go_at_call 39; refine Calls.quiet_of_same (HLN.out _ (grown_drewN _ _ _))))
    go_wp2
    go_meet
    case rel => exact ⟨by cases lk <;> simp_all, _, rfl⟩
  case rest =>
  obtain ⟨rfl, nq, hw3⟩ := hcut
  have g3 : w2.grownBy wc none := by rw [hw3]; exact grown_drewN _ _ _
  have z0 := g3.cell y0 (by simp)
  have z1 := g3.cell y1 (by simp)
  have z2 := g3.cell y2 (by simp)
  have hg5 := HL.out.2.1 wc (grown_trans H2.out.1 g3)
  have hg6 := HL.out.1 wc (grown_trans H2.out.1 g3)
  have H3 := hide g3
  clear hw3 g3 y0 y1 y2 c1
  go_wp2_with fail
  refine hg5.mono ?_
  clear hg5
  rintro e wz ⟨gw, gt, rfl, hgt, hwz⟩
  obtain rfl := hwz.symm
  go_upto_region 7 with fail
  go_cut [100] from 79 to 100 (fun s100 wx => s100 = .bool false ∧ wx = wc)
  case first =>
    by_cases hz : 0 < nE
    · obtain ⟨rfl, rfl⟩ := hgt hz
      obtain rfl : lk = true := by rw [HLK.out]; simpa using hz
      clear hg6
      go_wp2
      go_meet
      case rel => exact ⟨by simp, rfl⟩
    · obtain ⟨rfl, rfl⟩ := HL.out.2.2 hz
      obtain rfl : lk = false := by rw [HLK.out]; simpa using hz
      clear hg6 hgt
      go_wp2
      go_meet
      case rel => exact ⟨by simp, rfl⟩
  case rest =>
  obtain ⟨rfl, hwz⟩ := hcut
  subst hwz
  clear hgt
  go_wp2_with fail
  refine hg6.mono ?_
  clear hg6
  rintro e w4 ⟨lx, ly, lc, rfl, hlx, g4⟩
  have hlx : ord = true → lx = v ∧ ly = m := fun e => hlx (by have := HORD.out; rw [e] at this; simpa using this.symm)
  have u0 := g4.cell z0 (by simp)
  have u1 := g4.cell z1 (by simp)
  have u2 := g4.cell z2 (by simp)
  have H4 := hide (grown_trans (grown_trans H2.out.1 H3.out) g4)
  have H4b := hide ((g4.block _ (Nat.lt_of_lt_of_le (row_lt H2.out.2.1) H3.out.size) (by simp)).trans ((H3.out.block _ (row_lt H2.out.2.1) (by simp)).trans H2.out.2.1))
  have H4c := hide ((g4.block _ (Nat.lt_of_lt_of_le (row_lt H2.out.2.2.1) H3.out.size) (by simp)).trans ((H3.out.block _ (row_lt H2.out.2.2.1) (by simp)).trans H2.out.2.2.1))
  clear g4 z0 z1 z2
  go_upto_region 10 with fail
  go_cut [119] from 108 to 119 (fun s119 wx => s119 = .bool false ∧ wx = w4)
  case first =>
    cases ord with
    | true =>
      obtain ⟨rfl, rfl⟩ := hlx rfl
      go_wp2
      go_meet
      case rel => exact ⟨by simp, rfl⟩
    | false =>
      clear hlx
      go_wp2
      go_meet
      case rel => exact ⟨by simp, rfl⟩
  case rest =>
  obtain ⟨rfl, hwz⟩ := hcut
  subst hwz
  clear hlx
  have g5 := World.grownBy_alloc wc (.cells #[.int .i64 0] 3) none
  obtain ⟨w5, hw5⟩ : ∃ w5, w5 = wc.alloc (.cells #[.int .i64 0] 3) := ⟨_, rfl⟩
  have n5 : w5.heap[wc.heap.size]? = some (.cells [Value.int .i64 0].toArray 3 (0, 0)) := by rw [hw5]; exact heap_alloc_new wc _
  rw [← hw5] at g5
  have t5 := HW.out.2.2.2.2.2.1.then (grown_trans H4.out g5)
  obtain ⟨T5, s5⟩ := t5.hs
  have hall := all_at (lsK_ok k b) s5 (by omega) HW.out.2.2.2.2.2.2.perm HW.out.2.2.2.2.2.2.asc
  obtain ⟨iB, hiB⟩ : ∃ iB, iB = wc.heap.size := ⟨_, rfl⟩
  rw [← hiB] at n5
  have q0 := g5.cell u0 (by simp)
  have H5 := hide (And.intro g5 (And.intro n5 (And.intro t5 (And.intro hw5 hiB))))
  have HALL := hide hall
  clear g5 n5 t5 s5 hall u1 u2 hiB
  rw [hw5] at q0
  clear hw5
  go_wp2_with fail
  rw [← H5.out.2.2.2.1, ← H5.out.2.2.2.2]
  refine HALL.out.mono ?_
  rintro e w6 ⟨so, cp, rfl, hit, hso, g6⟩
  obtain ⟨BB, hBB⟩ : ∃ BB, BB = w5.heap.size := ⟨_, rfl⟩
  rw [← hBB] at hit hso ⊢
  have hiB5 : iB < w5.heap.size := row_lt H5.out.2.1
  have n6 : w6.heap[iB]? = some (.cells [Value.int .i64 0].toArray 3 (0, 0)) := (g6.block _ hiB5 (by simp)).trans H5.out.2.1
  have g56 := grown_trans H5.out.1 g6
  have b6 := (g56.block _ (row_lt H4b.out) (by simp)).trans H4b.out
  have d6 := (g56.block _ (row_lt H4c.out) (by simp)).trans H4c.out
  have t6 := H5.out.2.2.1.then g6
  have hbi : bx ≠ iB := fun e => by rw [e, n6] at b6; simp at b6
  have hdi : bx + 1 ≠ iB := fun e => by rw [e, n6] at d6; simp at d6
  have hiX : X.length = nE := H2.out.2.2.2.2.1
  have hri : r ≠ iB := fun e => by have := t6.rf.head; rw [e, n6] at this; simp at this
  have HS6 := hide (And.intro n6 (And.intro b6 (And.intro d6 (And.intro t6 (And.intro hbi (And.intro hdi (And.intro hri (And.intro hiX (And.intro hit (And.intro hso (And.intro g6 (And.intro hiB5 hBB))))))))))))
  clear n6 b6 d6 t6 hbi hdi hri hiX hit hso g6 hiB5 hBB g56 q0
  go_wp2_with fail
  have hit := HS6.out.2.2.2.2.2.2.2.2.1
  have hBl : BB < w6.heap.size := row_lt hit.box
  have hBi : BB ≠ iB := by have := HS6.out.2.2.2.2.2.2.2.2.2.2.2; omega
  have hIt : ∀ W, Kept w6 W (fun j => j = iB ∨ w6.heap.size ≤ j) → ItE W BB so cp X := fun W hk => ⟨hk.at hit.box (fun e => by rcases e with e | e; exact hBi e; omega), hit.le, fun i hi => by
    obtain ⟨g, e, h1, h2⟩ := hit.row i hi
    have hg : BB ≤ g := HS6.out.2.2.2.2.2.2.2.2.2.1 _ e
    have hgl : g < w6.heap.size := by
      unfold World.cell? at h1
      split at h1
      · rename_i hh; exact row_lt hh
      · cases h1
    have hsame : W.heap[g]? = w6.heap[g]? := hk.block g hgl (fun x => by
      rcases x with x | x
      · have := HS6.out.2.2.2.2.2.2.2.2.2.2.2; omega
      · omega)
    refine ⟨g, e, ?_, ?_⟩
    · rw [← h1]; unfold World.cell?; rw [hsame]
    · rw [← h2]; unfold World.cell?; rw [hsame]⟩
  refine (wpIn_wide (n := 6)).1 (wpIn_rangeFunc_ownG (w := w6) rfl (by decide) (gf := 46) (lb := #[.pointer (some ⟨BB, 0, none⟩)]) rfl trivial (enters_of Try.func46 (by kernel_rfl) rfl)
    (it_stops (fun A A' => Kept A A' (fun j => j = iB ∨ w6.heap.size ≤ j)) (fun W => Kept w6 W (fun j => j = iB ∨ w6.heap.size ≤ j)) 5 (by decide) BB so cp X (by rw [HS6.out.2.2.2.2.2.2.2.1, H2.out.2.2.2.2.2]; omega) w6 hIt (fun W W' h h' => h'.trans h (fun _ _ e => e)) (fun W W' g h => h.trans (Kept.new g _) (fun _ _ e => e)) (fun W h => Kept.new (below_grown h) _))
    (fun h h' => h.trans h' (fun _ _ e => e)) (fun W l o o' hl _ _ _ => Kept.of (grownBy_putObj' W l o') (fun j e _ => .inr (by cases e; exact hl))) (Below.refl _ _) (fun _ => rfl)
    (fun pre W => Kept w6 W (fun j => j = iB ∨ w6.heap.size ≤ j) ∧ W.heap[iB]? = some (.cells [Value.int .i64 (pre.length : Int)].toArray 3 (0, 0)) ∧ pre <+: X) (fun _ pre _ => ¬ pre <+: X)
    (fun s A A' row hs hg hr => ⟨hs.1.trans (Kept.of hg (S := fun j => j = iB ∨ w6.heap.size ≤ j) (fun j e _ => .inr (hr j e).1)) (fun _ _ e => e), (hg.block _ (row_lt hs.2.1) (fun e => by have := (hr _ e.symm).1; have := HS6.out.2.2.2.2.2.2.2.2.2.2.2.1; have := HS6.out.2.2.2.2.2.2.2.2.2.2.1.size; omega)).trans hs.2.1, hs.2.2⟩) (fun _ _ _ _ _ hs _ _ => hs) ⟨Kept.refl _ _, HS6.out.1, List.nil_prefix⟩
    (fun x => { tmps := #[Value.agg #[Value.pointer (some { block := p.h, off := 0 }), Value.pointer (some { block := r, off := 0 }), Value.bool ord], Value.int IntKind.i64 xa, Value.pointer (some { block := bx, off := 0 }), undef, Value.pointer (some { block := bx + 1, off := 0 }), Value.int IntKind.i64 a, Value.bool one, Value.int IntKind.i64 a, Value.bool one, Value.int IntKind.i64 v, Value.int IntKind.i64 m, Value.bool lk, Value.int IntKind.i64 gw, Value.bool gt, Value.int IntKind.i64 lx, Value.int IntKind.i64 ly, Value.bool lc, Value.pointer (some { block := iB, off := 0 }), .int .i64 (x.1 : Int), .int .i64 x.2, Value.tuple #[Value.int IntKind.i64 a, Value.bool one], Value.pointer (some { block := bx, off := 0 }), Value.pointer (some { block := p.h, off := 0 }), Value.int IntKind.i64 xa, Value.tuple #[Value.int IntKind.i64 a, Value.bool one], Value.int IntKind.i64 a, Value.bool one, Value.tuple #[Value.int IntKind.i64 a, Value.bool one], Value.pointer (some { block := bx, off := 1 }), Value.pointer (some { block := r, off := 0 }), Value.int IntKind.i64 xa, Value.tuple #[Value.int IntKind.i64 a, Value.bool one], Value.int IntKind.i64 a, Value.bool one, Value.tuple #[Value.int IntKind.i64 v, Value.int IntKind.i64 m, Value.bool lk], Value.pointer (some { block := bx, off := 0 }), Value.pointer (some { block := p.h, off := 0 }), Value.tuple #[Value.int IntKind.i64 v, Value.int IntKind.i64 m, Value.bool lk], Value.int IntKind.i64 v, Value.int IntKind.i64 m, Value.bool lk, u41, u42, u43, u44, u45, u46, u47, u48, u49, u50, u51, u52, u53, u54, u55, u56, u57, u58, u59, u60, u61, u62, u63, u64, u65, u66, u67, u68, u69, u70, Value.bool false, Value.tuple #[Value.int IntKind.i64 gw, Value.bool gt], Value.pointer (some { block := bx, off := 1 }), Value.pointer (some { block := r, off := 0 }), Value.int IntKind.i64 m, Value.tuple #[Value.int IntKind.i64 gw, Value.bool gt], Value.int IntKind.i64 gw, Value.bool gt, u79, u80, u81, u82, u83, u84, u85, u86, u87, u88, u89, u90, u91, u92, u93, u94, u95, u96, u97, u98, u99, Value.bool false, Value.tuple #[Value.int IntKind.i64 lx, Value.int IntKind.i64 ly, Value.bool lc], Value.pointer (some { block := bx, off := 1 }), Value.pointer (some { block := r, off := 0 }), Value.tuple #[Value.int IntKind.i64 lx, Value.int IntKind.i64 ly, Value.bool lc], Value.int IntKind.i64 lx, Value.int IntKind.i64 ly, Value.bool lc, u108, u109, u110, u111, u112, u113, u114, u115, u116, u117, u118, Value.bool false, Value.pointer (some { block := bx, off := 0 }), Value.pointer (some { block := p.h, off := 0 }), Value.func (Fn.func 46) #[] #[Value.pointer (some { block := BB, off := 0 })], .int .i64 (x.1 : Int), .int .i64 x.2, undef, undef, undef, undef, undef, undef, undef, undef, undef, undef, undef, undef, undef, undef, undef, undef, undef, undef, undef, undef, undef, undef, undef, undef, undef, undef, undef, undef, undef, undef, undef, undef, undef, undef, undef, undef, undef, undef, undef, undef, undef, undef, undef, undef], defers := [] }) ?assign ?body ?done ?stop)
  case assign =>
    intro l x W K hK
    simp only [encE]
    gi_wp2
    exact hK
  case stop =>
    rintro D c pre W _ h1 h2 _
    exact (h2 h1).elim
  case body =>
    rintro l pre x W ⟨hK, hbi, hpre⟩ hlt
    have hjl : pre.length < X.length := hlt
    have hk6 : ∀ {j : Nat} {o : Obj}, w6.heap[j]? = some o → j ≠ iB → W.heap[j]? = some o := fun {j o} h hn => hK.at h (fun e => by
      rcases e with e | e
      · exact hn e
      · have := row_lt h; omega)
    have i0 := cell_row hbi 0
    have fi0 : W.frozen? ⟨iB, 0, none⟩ = false := free_row hbi 0
    have e1 := cell_row (hk6 HS6.out.2.1 HS6.out.2.2.2.2.1) 1
    have d0 := cell_row (hk6 HS6.out.2.2.1 HS6.out.2.2.2.2.2.1) 0
    have fd0 : W.frozen? ⟨bx + 1, 0, none⟩ = false := free_row (hk6 HS6.out.2.2.1 HS6.out.2.2.2.2.2.1) 0
    have r1 := cell_row (hk6 HS6.out.2.2.2.1.rf.head HS6.out.2.2.2.2.2.2.1) 1
    obtain ⟨g, c2, cur, hv, hgb, hg, hn, ht⟩ := own_rowC HS6.out.2.2.2.1.rf.row (by omega)
    have hgi : g ≠ iB := fun e => by rw [e, HS6.out.1] at hg; simp at hg
    have a0 := own_cell (hk6 hg hgi) ht (ecells_get hjl).1
    have a1 := own_cell (hk6 hg hgi) ht (ecells_get hjl).2
    cases hv
    simp at i0 e1 d0 r1
    have hiX := HS6.out.2.2.2.2.2.2.2.1
    have hnE : nE ≤ 60000 := by rw [H2.out.2.2.2.2.2]; exact hE
    rw [hiX] at r1
    have hd1 : ((nE : Int) ≤ (pre.length : Int)) = False := by simp; omega
    have hd2 : ((pre.length : Int) < (nE : Int)) = True := by simp; omega
    have hw1 : IntKind.i64.wrap ((pre.length : Int) + 1) = (pre.length : Int) + 1 := by rw [IntKind.wrap_i64]; omega
    have HB := hide (And.intro hK (And.intro hbi (And.intro hpre hjl)))
    clear hK hbi hpre hjl hk6 hg ht hgb hgi hlt
    obtain ⟨x1, x2⟩ := x
    have hpe : ∀ y : Nat × Int, (pre ++ [y]) <+: X → y = en X pre.length := by
      rintro y ⟨r, hr⟩
      unfold en
      rw [← hr]
      simp
    have hpn : (pre ++ [en X pre.length]) <+: X := by
      obtain ⟨r, hr⟩ := HB.out.2.2.1
      have hl := HB.out.2.2.2
      rw [← hr, List.length_append] at hl
      cases r with
      | nil => simp at hl
      | cons y r =>
        have e : en X pre.length = y := by unfold en; rw [← hr]; simp
        rw [e]
        exact ⟨r, by rw [← hr]; simp⟩
    obtain ⟨pl, hpl⟩ : ∃ pl, pl = pre.length := ⟨_, rfl⟩
    obtain ⟨yk, hyk⟩ : ∃ yk, yk = (en X pre.length).1 := ⟨_, rfl⟩
    obtain ⟨yv, hyv⟩ : ∃ yv, yv = (en X pre.length).2 := ⟨_, rfl⟩
    rw [← hyk] at a0
    rw [← hyv] at a1
    rw [← hpl] at a0 a1 i0 hd1 hd2 hw1
    have hd3 : decide (nE ≤ pl) = false := by simpa using hd1
    have hd4 : decide ((nE : Int) ≤ (pl : Int)) = false := by simpa using hd1
    have HRet : Hid (∀ W', ¬ (yk = x1 ∧ yv = x2) → (∃ nq, W' = (W.drewN nq).setCell ⟨bx + 1, 0, none⟩ (.bool false)) → KeepsFrom w6.heap.size W W' ∧ ¬ (pre ++ [(x1, x2)]) <+: X) := by
      rintro W' hno ⟨nq, rfl⟩
      refine ⟨((KeepsOthers.of_grownBy (grown_drewN W nq none) (fun j o hj => by cases hj)).trans (KeepsOthers.setCell _ _ _)).from _, fun hp => hno ?_⟩
      have he := hpe _ hp
      exact ⟨by rw [hyk, ← he], by rw [hyv, ← he]⟩
    have HOk : Hid (∀ W', yk = x1 ∧ yv = x2 → (∃ nq, W' = (W.drewN nq).setCell ⟨iB, 0, none⟩ (.int .i64 ((pl : Int) + 1))) → KeepsFrom w6.heap.size W W' ∧ Kept W W' (fun j => j = iB ∨ w6.heap.size ≤ j) ∧ (Kept w6 W' (fun j => j = iB ∨ w6.heap.size ≤ j) ∧ W'.heap[iB]? = some (.cells [Value.int .i64 ((pre ++ [(x1, x2)]).length : Int)].toArray 3 (0, 0)) ∧ (pre ++ [(x1, x2)]) <+: X)) := by
      rintro W' ⟨e1, e2⟩ ⟨nq, rfl⟩
      have kk : Kept W ((W.drewN nq).setCell ⟨iB, 0, none⟩ (.int .i64 ((pl : Int) + 1))) (fun j => j = iB ∨ w6.heap.size ≤ j) := (Kept.new (grown_drewN W nq none) _).trans (Kept.of (grown_setCell (W.drewN nq) iB 0 (.int .i64 ((pl : Int) + 1))) (S := fun j => j = iB ∨ w6.heap.size ≤ j) (fun j e _ => .inl (Option.some.inj e).symm)) (fun _ _ e => e)
      refine ⟨((KeepsOthers.of_grownBy (grown_drewN W nq none) (fun j o hj => by cases hj)).trans (KeepsOthers.setCell _ _ _)).from _, kk, HB.out.1.trans kk (fun _ _ e => e), ?_, ?_⟩
      · have hl : ((pre ++ [(x1, x2)]).length : Int) = (pl : Int) + 1 := by rw [List.length_append, hpl]; simp
        rw [hl]
        exact row_setCell (w := W.drewN nq) HB.out.2.1 0 _
      · have : (x1, x2) = en X pre.length := by rw [← e1, ← e2, hyk, hyv]
        rw [this]
        exact hpn
    clear hpe hpn hpl hyk hyv HB
    by_cases hA : yk = x1
    · by_cases hB : yv = x2
      · have HF := hide (HOk.out · ⟨hA, hB⟩)
        have HAB := hide (And.intro hA hB)
        have q1 : ((yk : Int) == (x1 : Int)) = true := by simp [hA]
        have q2 : (yv == x2) = true := by simp [hB]
        have q3 : decide ((yk : Int) = (x1 : Int)) = true := by simp [hA]
        have q4 : decide (yv = x2) = true := by simp [hB]
        have q5 : ((yk : Int) = (x1 : Int)) = True := by simp [hA]
        have q6 : (yv = x2) = True := by simp [hB]
        clear hA hB HRet HOk
        gi_wp2_with fail
        refine wpIn_round_quiet (by kernel_rfl) (by kernel_rfl) (by kernel_rfl) (by rintro ⟨_, _, h⟩; exact h) ?_
        repeat (quiet_step (fail))
        refine wpQuiet_nil ?_
        intro _ hw'
        obtain ⟨nq, hw''⟩ := hw'
        subst hw''
        gi_wp2
        all_goals first
          | exact HF.out _ ⟨nq, rfl⟩
          | (rename_i hc; exfalso; simp [HAB.out.1, HAB.out.2] at hc)
      · have HF := hide (HRet.out · (fun h => hB h.2))
        have HAB := hide (And.intro hA hB)
        have q1 : ((yk : Int) == (x1 : Int)) = true := by simp [hA]
        have q2 : (yv == x2) = false := by simp [hB]
        have q3 : decide ((yk : Int) = (x1 : Int)) = true := by simp [hA]
        have q4 : decide (yv = x2) = false := by simp [hB]
        have q5 : ((yk : Int) = (x1 : Int)) = True := by simp [hA]
        have q6 : (yv = x2) = False := by simp [hB]
        clear hA hB HRet HOk
        gi_wp2_with fail
        refine wpIn_round_quiet (by kernel_rfl) (by kernel_rfl) (by kernel_rfl) (by rintro ⟨_, _, h⟩; exact h) ?_
        repeat (quiet_step (fail))
        refine wpQuiet_nil ?_
        intro _ hw'
        obtain ⟨nq, hw''⟩ := hw'
        subst hw''
        gi_wp2
        all_goals first
          | exact HF.out _ ⟨nq, rfl⟩
          | (rename_i hc; exfalso; simp [HAB.out.1, HAB.out.2] at hc)
    · have HF := hide (HRet.out · (fun h => hA h.1))
      have q1 : ((yk : Int) == (x1 : Int)) = false := by simp; omega
      have q3 : decide ((yk : Int) = (x1 : Int)) = false := by simp; omega
      have q5 : ((yk : Int) = (x1 : Int)) = False := by simp; omega
      clear hA HRet HOk
      gi_wp2_with fail
      refine wpIn_round_quiet (by kernel_rfl) (by kernel_rfl) (by kernel_rfl) (by rintro ⟨_, _, h⟩; exact h) ?_
      repeat (quiet_step (fail))
      refine wpQuiet_nil ?_
      intro _ hw'
      obtain ⟨nq, hw''⟩ := hw'
      subst hw''
      gi_wp2
      exact HF.out _ ⟨nq, rfl⟩
  case done =>
    rintro D xs W hD rfl ⟨hK, hbi, -⟩ hKd
    have hk6 : ∀ {j : Nat} {o : Obj}, w6.heap[j]? = some o → j ≠ iB → W.heap[j]? = some o := fun {j o} h hn => hK.at h (fun e => by
      rcases e with e | e
      · exact hn e
      · have := row_lt h; omega)
    have hiX := HS6.out.2.2.2.2.2.2.2.1
    rw [hiX] at hbi
    have i0 := cell_row hbi 0
    have e1 := cell_row (hk6 HS6.out.2.1 HS6.out.2.2.2.2.1) 1
    have hd6 := hk6 HS6.out.2.2.1 HS6.out.2.2.2.2.2.1
    have d0 := cell_row hd6 0
    have fd0 : W.frozen? ⟨bx + 1, 0, none⟩ = false := free_row hd6 0
    have r1 := cell_row (hk6 HS6.out.2.2.2.1.rf.head HS6.out.2.2.2.2.2.2.1) 1
    simp at i0 e1 d0 r1
    rw [hiX] at r1
    have n1 : bx + 1 ≠ iB := HS6.out.2.2.2.2.2.1
    have n2 : iB ≠ bx + 1 := fun e => n1 e.symm
    have n3 : r ≠ bx + 1 := fun e => by
      have h1 := HS6.out.2.2.2.1.rf.head
      have h2 := HS6.out.2.2.1
      rw [e, h2] at h1
      simp at h1
    have n4 : bx + 1 ≠ r := fun e => n3 e.symm
    have HB := hide (And.intro hK (And.intro hd6 (And.intro hKd hD)))
    clear hK hbi hk6 hd6 hKd hD
    go_upto_region 19 with fail
    go_region_held3 (fun w' => w'.cell? ⟨iB, 0, none⟩ = some (.int .i64 (nE : Int)) ∧ w'.cell? ⟨bx, 1, none⟩ = some (.pointer (some ⟨r, 0, none⟩)) ∧ w'.cell? ⟨r, 1, none⟩ = some (.slice vo nE cap)) (first | exact ⟨i0, e1, r1⟩ | assumption | go_keep) (fail)
    go_wp2
    have hbl := row_lt HS6.out.2.2.1
    have hDw : D ≠ bx + 1 := by have := HB.out.2.2.2; omega
    have hK2 : (W.setCell ⟨bx + 1, 0, none⟩ (.bool true)).drew.heap[D]? = some (.deferred (some [])) := (Below.heap_setCell _ _ _ _ hDw).trans HB.out.2.2.1
    have cE : ((W.setCell ⟨bx + 1, 0, none⟩ (.bool true)).drew.putObj D (.deferred none)).cell? ⟨bx + 1, 0, none⟩ = some (.bool true) := by
      have b1 := row_setCell HB.out.2.1 0 (.bool true)
      have b2 : ((W.setCell ⟨bx + 1, 0, none⟩ (.bool true)).drew.putObj D (.deferred none)).heap[bx + 1]? = _ := (World.putObj_heap_other (fun e => hDw e.symm)).trans b1
      exact cell_row b2 0
    refine ⟨by simp, .inl ⟨_, _, rfl, run_takeDeferred hK2, ?_⟩⟩
    refine ⟨.bool true, ?_, rfl, ?_⟩
    · simp [results, Try.results12, go_sem, cE]
    · have gw6 : w.grownBy w6 none := grown_trans H4.out (grown_trans H5.out.1 HS6.out.2.2.2.2.2.2.2.2.2.2.1)
      have hbx := HW.out.2.1
      have hiw : w.heap.size ≤ iB := by rw [H5.out.2.2.2.2]; exact H4.out.size
      have k1 : Kept w W (fun j => w.heap.size ≤ j) := (Kept.new gw6 (fun j => w.heap.size ≤ j)).trans HB.out.1 (fun j hj e => by rcases e with e | e; omega; have := gw6.size; omega)
      have gW : w.grownBy W none := ⟨k1.os, k1.tape, k1.output, k1.size, fun j hj _ => k1.block j hj (by omega)⟩
      exact grown_then (grown_trans (grown_then gW (grown_setCell _ _ _ _) (fun k e => by cases e; exact .inl (by omega))) (grown_drew _ none)) (grownBy_putObj' _ D _) (fun k e => by cases e; exact .inl (by have := HB.out.2.2.2; have := gw6.size; omega))
end
end Go.Proofs.Ytkbhjdjdjfdikaa
