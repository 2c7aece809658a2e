/- ReplayOf, walked. -/
import Derived.Test.YtinkkocleognbaaGreatDoorO6
namespace Go.Proofs.YtinkkocleognbaaGreatDoor
open Go.RowKit Go.Shelf
attribute [local go_sem ↓] Go.wp_at_zero Go.wp_at_succ
attribute [local go_sem] Oper.semAt_some
theorem Dl.far {w w' : World} {lo n : Nat} {v : Value} {f : Nat → Sb} {ds : List (Nat × Value)} {X : Nat → Prop} (h : Dl w lo v f n ds) (k : Kept w w' X) (hX : ∀ i, lo ≤ i → i < w.heap.size → ¬ X i) : Dl w' lo v f n ds :=
  ⟨h.len, Ix.row_keep h.row (fun q hq => by obtain ⟨h1, cur, hc⟩ := Ix.own_block h.row hq; exact k.block q (row_lt hc) (hX q h1 (row_lt hc))), fun j x hj => (h.bk j x hj).far k (fun i hi => hX i ((h.bk j x hj).lows i hi) ((h.bk j x hj).lt i hi))⟩
theorem Dl.cell {w : World} {lo n g c k : Nat} {f : Nat → Sb} {ds : List (Nat × Value)} {x : Nat × Value} (h : Dl w lo (.slice (some ⟨g, 0, none⟩) n c) f n ds) (hk : ds[k]? = some x) : w.cell? ⟨g, k, none⟩ = some (.pointer (some ⟨x.1, 0, none⟩)) := by
  have hl := (List.getElem?_eq_some_iff.1 hk).1
  rw [h.len] at hl
  obtain ⟨g', c', cur, e, -, hg, -, -, -, ht⟩ := Ix.own_row h.row (by omega)
  cases e
  refine Ix.own_cell hg ht ?_
  unfold dps
  rw [List.getElem?_map, hk]
  rfl
theorem results_cell4 {fn : Func} {p : Tmp} (h : fn.results = #[.cell p 4]) (tmps : Array Value) (w : World) (g : Nat) (v : Value) (hp : tmps.getD p undef = .pointer (some ⟨g, 0, none⟩)) (hc : w.cell? ⟨g, 0, none⟩ = some v) :
    (results fn tmps).run Tryz.prog w = .ok v w := by
  have hp' : tmps[p]?.getD undef = .pointer (some ⟨g, 0, none⟩) := by simpa using hp
  simp [results, h, hp', asAddr]
  go_simp
theorem recs_take {w : World} {ao : Option Addr} {rs : List Rc} (h : RecsAt w ao rs) (n : Nat) : RecsAt w ao (rs.take n) := fun j r hj => h j r (by
  rw [List.getElem?_take] at hj
  split at hj
  · exact hj
  · cases hj)
/-- Inside the range, between two states. -/
structure OfI (wb W : World) (B : Nat) (pre : List (Nat × Bp)) (O : Nat → Prop) : Prop where
  kp : Kept wb W (fun i => i = B)
  no : ∀ i, O i → wb.heap.size ≤ i
  bx : W.heap[B]? = some (.cells [Value.int .i64 (pre.length : Int)].toArray 3 (0, 0))
theorem OfI.goes {wb : World} {B : Nat} (hB : B < wb.heap.size) : Goes (fun pre O W => OfI wb W B pre O) := fun _ O O' A A' h k hOO =>
  ⟨(h.kp.trans (k.mono (fun i _ e => show i = B ∨ wb.heap.size ≤ i from .inr (h.no i e))) (fun i hi e => by rcases e with e | e; exact e; omega)), fun i hi => by
    rcases hOO i hi with e | e
    · exact h.no i e
    · exact Nat.le_trans h.kp.size e, k.at h.bx (fun e => by have := h.no _ e; omega)⟩
set_option maxRecDepth 100000 in
set_option maxHeartbeats 40000000 in
theorem of_yes {w : World} {a b c : Nat} (ho : Gx.OkS a b c) {ao : Option Addr} {len cap : Nat} {rs : List Rc} (hl : rs.length = len) (hc : len ≤ cap) (hnil : ao = none → len = 0 ∧ cap = 0) (hR : RecsAt w ao rs) (hO : ∀ r ∈ rs, r.Ok) (hT : Rk.Tab w) : Calls Tryz.prog 4 #[.agg #[.int .i64 (a : Int), .int .i64 (b : Int), .int .i64 (c : Int)], .slice ao len cap] w fun e w' => e = .returned (.bool true) ∧ w.grownBy w' none := by
  obtain ⟨rt, hrt⟩ : ∃ rt, rt = rs.take 120 := ⟨_, rfl⟩
  obtain ⟨n, hn⟩ : ∃ n, n = min len 120 := ⟨_, rfl⟩
  have hrl : rt.length = n := by rw [hrt, List.length_take, hl, hn]; omega
  have hRt : RecsAt w ao rt := by rw [hrt]; exact recs_take hR 120
  have hOt : ∀ r ∈ rt, r.Ok := fun r hr => hO r (by rw [hrt] at hr; exact List.mem_of_mem_take hr)
  have hn120 : n ≤ 120 := by omega
  have HCut : Hid (∀ W, Calls Tryz.prog 14 #[.slice ao len cap] W fun e w' => e = .returned (.slice ao n cap) ∧ w' = W) := fun W => by rw [hn]; exact cut_any ao len cap hc W
  have HLent : Hid (∀ W, w.grownBy W none → Calls Tryz.prog 15 #[.slice ao n cap] W fun e w' => ∃ g c, e = .returned (.slice (some ⟨g, 0, none⟩) n c) ∧ LentR w' W.heap.size g c rt ∧ W.grownBy w' none) := fun W g => lentR_any ao n cap rt W hrl (hRt.grown g) (fun e => by have := hnil e; exact ⟨by omega, this.2⟩) (by omega)
  have HOf : Hid (∀ W B0 g ci, w.grownBy W none → LentR W B0 g ci rt → Calls Tryz.prog 10 #[.agg #[.int .i64 (a : Int), .int .i64 (b : Int), .int .i64 (c : Int)], .slice (some ⟨g, 0, none⟩) n ci] W fun e w' => ∃ d p, e = .returned (.tuple #[.pointer (some ⟨d, 0, none⟩), .int .i64 (rn (nS a b c) rt : Int), .int .i64 (rE (nS a b c) rt)]) ∧ Lk W w' d (fo (nS a b c) rt (rn (nS a b c) rt)) 10000 p []) := fun W B0 g ci gW hL => of_any ho hrl (by omega) hL.first hOt (hT.new gW)
  have HDs : Hid (∀ W, w.grownBy W none → Calls Tryz.prog 16 #[.agg #[.int .i64 (a : Int), .int .i64 (b : Int), .int .i64 (c : Int)], .slice ao n cap] W fun e w' => ∃ v, e = .returned (.tuple #[v, .int .i64 (rE (nS a b c) rt)]) ∧ DsP W w' v (fo (nS a b c) rt) (rn (nS a b c) rt + 1)) := fun W gW => dstates_any ho hrl (by omega) (hRt.grown gW) hOt
  have HKp : Hid (∀ W B0 g ci, w.grownBy W none → LentR W B0 g ci rt → Calls Tryz.prog 17 #[.slice (some ⟨g, 0, none⟩) n ci, .slice ao n cap] W fun e w' => e = .returned (.bool true) ∧ W.grownBy w' none) := fun W B0 g ci gW hL => keptR_any hL hrl (hRt.grown gW) (by omega)
  have HOv : Hid (∀ W B0 g ci, LentR W B0 g ci rt → Calls Tryz.prog 19 #[.slice (some ⟨g, 0, none⟩) n ci] W fun e w' => e = .returned (.tuple #[]) ∧ W.grownBy w' (some g)) := fun W B0 g ci hL => overR_any hL hrl (by omega)
  have HSt : Hid (∀ W B0 g ci, w.grownBy W none → LentR W B0 g ci rt → Calls Tryz.prog 12 #[.agg #[.int .i64 (a : Int), .int .i64 (b : Int), .int .i64 (c : Int)], .slice (some ⟨g, 0, none⟩) n ci] W fun e w' => ∃ v, e = .returned v ∧ StF w' W.heap.size v a b c rt ∧ W.grownBy w' none) := fun W B0 g ci gW hL => by
    have := states_any (a := (a : Int)) (b := (b : Int)) (c := (c : Int)) (cap := ci) hL.first hOt (by omega) (hT.new gW)
    rw [hrl] at this
    exact this
  obtain ⟨m, hm⟩ : ∃ m, m = rn (nS a b c) rt := ⟨_, rfl⟩
  have hmn : m ≤ 120 := by have := (ran_is (nS a b c) rt).le; omega
  have HWk : Hid (∀ j, (fo (nS a b c) rt j).Wk) := fun j => (fo_ok (nS_ok ho) rt j).wk
  have HSq : Hid (∀ (Bs Bl : Nat) (so : Option Addr) (cap : Nat) (W : World), StI W Bs Bl a b c so cap rt → SeqW Fence.wide 5 Tryz.prog 41 #[.pointer (some ⟨Bs, 0, none⟩), .pointer (some ⟨Bl, 0, none⟩)] encS (stR Bs Bl so rt.length) (fun x => x.2.own) (StV (nS a b c) rt) (fun xs => xs.length = m + 1) W) := fun Bs Bl so cap W hI => by rw [hm]; exact st_seq 5 (by decide) Bs Bl a b c ho so cap rt W hI
  have HSv : Hid (∀ pre (y : Nat × Bp) W, StV (nS a b c) rt pre y W → y.1 ≤ m) := fun pre y W h => by rw [hm]; exact h.2.1
  have HAw : Hid (∀ W, w.grownBy W none → Calls Tryz.prog 13 #[] W fun e w' => e = .returned (.bool true) ∧ W.grownBy w' none) := fun W g => awake_any W (hT.new g)
  rw [← hm] at HOf HDs
  obtain ⟨m1, hm1⟩ : ∃ m1, m1 = m + 1 := ⟨_, rfl⟩
  rw [← hm1] at HDs HSq
  have HM1 := hide hm1
  have HTl := hide hT.lt
  clear hR hO hT hl hc hnil ho hRt hOt hrt hn hm hm1
  generalize rE (nS a b c) rt = er at *
  have hnil := eqlNil52
  obtain ⟨A, hA⟩ : ∃ A : Int, A = (a : Int) := ⟨_, rfl⟩
  obtain ⟨Bb, hBb⟩ : ∃ A : Int, A = (b : Int) := ⟨_, rfl⟩
  obtain ⟨Cc, hCc⟩ : ∃ A : Int, A = (c : Int) := ⟨_, rfl⟩
  rw [← hA, ← hBb, ← hCc] at HOf HDs HSt HSq ⊢
  clear hA hBb hCc
  obtain ⟨w1, hw1⟩ : ∃ w1, w1 = ((w.alloc (.cells #[.int .i64 A, .int .i64 Bb, .int .i64 Cc] 23)).alloc (.cells #[.bool false] 4)) := ⟨_, rfl⟩
  have g1 : w.grownBy w1 none := by rw [hw1]; exact gn_alloc (grown_alloc w _) _
  have b2 : w1.heap[w.heap.size]? = some (.cells [Value.int .i64 A, .int .i64 Bb, .int .i64 Cc].toArray 23 (0, 0)) := by rw [hw1]; exact keep1 _ _ (heap_alloc_new w _)
  have b4 : w1.heap[w.heap.size + 1]? = some (.cells [Value.bool false].toArray 4 (0, 0)) := by
    rw [hw1]
    have := heap_alloc_new (w.alloc (.cells #[.int .i64 A, .int .i64 Bb, .int .i64 Cc] 23)) (.cells [Value.bool false].toArray 4)
    rw [World.size_alloc] at this
    exact this
  have HSh : Hid (∀ W, w1.grownBy W none → W.cell? ⟨w.heap.size, 0, none⟩ = some (.int .i64 A) ∧ W.cell? ⟨w.heap.size, 1, none⟩ = some (.int .i64 Bb) ∧ W.cell? ⟨w.heap.size, 2, none⟩ = some (.int .i64 Cc)) := fun W gW => by
    obtain ⟨s0, s1, s2, -⟩ := box3 ((gW.block _ (row_lt b2) (by simp)).trans b2)
    exact ⟨s0, s1, s2⟩
  have HG1 := hide g1
  have HB4 := hide b4
  have HW1 := hide hw1
  clear g1 b2 b4 hw1
  refine (callsIn_wide (n := 6)).1 (callsIn_of_wp_marks Tryz.func4 rfl trivial ?_ rfl)
  simp only [Tryz.ntmps4, List.size_toArray, List.length_cons, List.length_nil, Nat.reduceAdd, Nat.reduceSub, Array.replicate_succ, Array.replicate_zero, List.push_toArray, List.append_toArray, List.nil_append, List.cons_append]
  refine wpIn_wide.2 ?_
  go_wp2_with fail
  rw [← HW1.out]
  refine (HCut.out _).mono ?_
  clear HCut HW1
  rintro e wx ⟨rfl, hw⟩
  obtain rfl := hw.symm
  clear hw
  go_wp2_with fail
  refine (HLent.out _ HG1.out).mono ?_
  clear HLent
  rintro e w2 ⟨gi, ci, rfl, hL2, g2⟩
  have HL2 := hide hL2
  have G2 := hide g2
  have HI2 : Hid (w1.heap.size ≤ gi ∧ gi < w2.heap.size) := by
    obtain ⟨g', c', cur, e, h1, h2, -⟩ := Ix.own_row hL2.own (by omega)
    cases e
    exact ⟨h1, row_lt h2⟩
  obtain ⟨s0, s1, s2⟩ := HSh.out w2 g2
  clear hL2 g2
  go_wp2_with fail
  refine (HOf.out w2 _ _ _ (grown_trans HG1.out G2.out) HL2.out).mono ?_
  clear HOf s0 s1 s2
  rintro e w3 ⟨d, p, rfl, hLk⟩
  have G3 := hide (grown_trans G2.out hLk.gr)
  have HLk := hide hLk
  have HL3 := hide (HL2.out.then hLk.gr)
  obtain ⟨s0, s1, s2⟩ := HSh.out w3 G3.out
  clear hLk
  go_wp2_with fail
  refine (HDs.out w3 (grown_trans HG1.out G3.out)).mono ?_
  clear HDs s0 s1 s2
  rintro e w4 ⟨v4, rfl, ds, hD4, g4⟩
  obtain ⟨gv, cv, cur4, rfl, -⟩ := Ix.own_row hD4.row (by have := HM1.out; omega)
  obtain ⟨w5, hw5⟩ : ∃ w5, w5 = w4.alloc (.cells #[.slice (some ⟨gv, 0, none⟩) m1 cv] 56) := ⟨_, rfl⟩
  have g5 : w4.grownBy w5 none := by rw [hw5]; exact grown_alloc _ _
  have b9 : w5.heap[w4.heap.size]? = some (.cells [Value.slice (some ⟨gv, 0, none⟩) m1 cv].toArray 56 (0, 0)) := by rw [hw5]; exact heap_alloc_new w4 _
  have G5 := hide (grown_trans G3.out (grown_trans g4 g5))
  have D5 := hide (hD4.then g5)
  have HL5 := hide (HL3.out.then (grown_trans g4 g5))
  have HK5 := hide (HLk.out.then (grown_trans g4 g5))
  obtain ⟨B9, hB9⟩ : ∃ B9, w4.heap.size = B9 := ⟨_, rfl⟩
  rw [hB9] at b9
  have HB9 := hide b9
  have HZ : Hid (gi < w3.heap.size ∧ w3.heap.size ≤ B9 ∧ ∀ i, w3.heap.size ≤ i → i < w4.heap.size → i < B9) := ⟨by have := HI2.out.2; have := HLk.out.gr.size; omega, by rw [← hB9]; exact g4.size, fun i _ h => by rw [← hB9]; exact h⟩
  have c9 : w5.cell? ⟨B9, 0, none⟩ = some (.slice (some ⟨gv, 0, none⟩) m1 cv) := by rw [cell_row b9]; rfl
  have HW5 := hide (And.intro hw5 hB9)
  clear hD4 g4 g5 b9 hw5 HLk HL3 HL2 G2 G3
  have hee : (er != er) = false := by simp
  go_wp2_with fail
  rw [← HW5.out.1]
  refine (HKp.out w5 _ _ _ (grown_trans HG1.out G5.out) HL5.out).mono ?_
  clear HKp c9
  rintro e w6 ⟨rfl, g6⟩
  have G6 := hide (grown_trans G5.out g6)
  have D6 := hide (D5.out.then g6)
  have HL6 := hide (HL5.out.then g6)
  have HK6 := hide (HK5.out.then g6)
  have HB96 := hide ((g6.block _ (row_lt HB9.out) (by simp)).trans HB9.out)
  have c9 : w6.cell? ⟨B9, 0, none⟩ = some (.slice (some ⟨gv, 0, none⟩) m1 cv) := by rw [cell_row HB96.out]; rfl
  clear g6 D5 HL5 HK5 G5 HW5
  obtain ⟨⟨dm, um⟩, hdm⟩ : ∃ x, ds[m]? = some x := ⟨ds[m]'(by rw [D6.out.len]; have := HM1.out; omega), List.getElem?_eq_getElem _⟩
  have cm := D6.out.cell hdm
  have HIs := is_any HK6.out.bk (HWk.out m) (D6.out.bk m _ hdm)
  rw [HK6.out.eb] at HIs
  dsimp only at cm HIs
  have w1s : IntKind.i64.wrap ((m1 : Int) - 1) = (m : Int) := by rw [IntKind.wrap_i64]; have := HM1.out; omega
  have i0 : (0 : Int) ≤ (m : Int) := by omega
  have i1 : (m : Int) < (m1 : Int) := by have := HM1.out; omega
  have i2 : ((m1 : Int) == 0) = false := by have := HM1.out; simp; omega
  have i3 : decide ((m1 : Int) = 0) = false := decide_eq_false (by have := HM1.out; omega)
  have i4 : decide (m1 = 0) = false := decide_eq_false (by have := HM1.out; omega)
  have i5 : (m1 == 0) = false := by have := HM1.out; simp; omega
  have i6 : ¬ m1 = 0 := by have := HM1.out; omega
  clear hdm
  go_wp2_with fail
  refine HIs.mono ?_
  clear HIs cm c9
  rintro e w7 ⟨rfl, g7⟩
  have G7 := hide (grown_trans G6.out g7)
  have D7 := hide (D6.out.then g7)
  have HL7 := hide (HL6.out.then g7)
  have HB97 := hide ((g7.block _ (row_lt HB96.out) (by simp)).trans HB96.out)
  obtain ⟨s0, s1, s2⟩ := HSh.out w7 G7.out
  have hz7 : B9 < w7.heap.size := row_lt HB97.out
  clear g7 G6 D6 HL6 HK6 HB96 HB9
  go_wp2_with fail
  refine (HSt.out w7 _ _ _ (grown_trans HG1.out G7.out) HL7.out).mono ?_
  clear HSt s0 s1 s2
  rintro e w8 ⟨vf, rfl, ⟨Bs, Bl, so, cap', rfl, hI, hBl⟩, g8⟩
  have HI8 := hide (And.intro hI hBl)
  have HL8 := hide (HL7.out.then g8)
  have D8 := hide (D7.out.then g8)
  have G8 := hide (grown_trans G7.out g8)
  have HB98 := hide ((g8.block _ (row_lt HB97.out) (by simp)).trans HB97.out)
  have h78 := g8.size
  clear hI hBl g8 HL7 D7 HB97
  go_wp2_with fail
  refine (HOv.out w8 _ _ _ HL8.out).mono ?_
  clear HOv
  rintro e w9 ⟨rfl, g9⟩
  have k9 : Kept w8 w9 (fun i => i = gi) := Kept.of g9 (fun j e _ => (Option.some.inj e).symm)
  have hgi := HI2.out
  have hzz := HZ.out
  have hw0 := HTl.out
  have hw1s : w.heap.size + 1 < w1.heap.size := row_lt HB4.out
  have D9 := hide (D8.out.far k9 (fun i h1 _ e => by omega))
  have HI9 := hide (And.intro (HI8.out.1.keep k9 (fun i hi e => by rcases HI8.out.2 i hi with e2 | e2 <;> omega)) HI8.out.2)
  have HB99 := hide (k9.at HB98.out (by omega))
  have HB49 := hide (k9.at ((G8.out.block _ (row_lt HB4.out) (by simp)).trans HB4.out) (by omega))
  have G9 : Hid (w.grownBy w9 none) := kept_grown (grown_trans HG1.out G8.out) k9 (fun i e => by have := HG1.out.size; omega)
  have h89 := k9.size
  clear k9 g9 D8 HI8 HB98 G8 HL8 G7
  obtain ⟨w10, hw10⟩ : ∃ w10, w10 = w9.alloc (.cells #[.int .i64 0] 3) := ⟨_, rfl⟩
  have g10 : w9.grownBy w10 none := by rw [hw10]; exact grown_alloc _ _
  have b12 : w10.heap[w9.heap.size]? = some (.cells [Value.int .i64 0].toArray 3 (0, 0)) := by rw [hw10]; exact heap_alloc_new w9 _
  have s10 : w10.heap.size = w9.heap.size + 1 := by rw [hw10]; simp
  obtain ⟨B12, hB12⟩ : ∃ B12, w9.heap.size = B12 := ⟨_, rfl⟩
  rw [hB12] at b12 s10
  have H10 := hide (And.intro g10 b12)
  have HW10 := hide (And.intro hw10 hB12)
  clear g10 b12 hw10
  have hrl2 := hrl
  go_wp2
  rw [← HW10.out.1]
  clear HW10
  have HDW : Hid (∀ W, Kept w10 W (fun i => i = B12) → Dl W w3.heap.size (.slice (some ⟨gv, 0, none⟩) m1 cv) (fo (nS a b c) rt) m1 ds ∧ W.cell? ⟨B9, 0, none⟩ = some (.slice (some ⟨gv, 0, none⟩) m1 cv) ∧ W.heap[w.heap.size + 1]? = some (.cells [Value.bool false].toArray 4 (0, 0))) := fun W kW => by
    have kk : Kept w9 W (fun i => i = B12) := (Kept.new H10.out.1 _).trans kW (fun i _ e => e)
    refine ⟨D9.out.far kk (fun i _ h e => by omega), ?_, kk.at HB49.out (by omega)⟩
    rw [cell_row (kk.at HB99.out (by omega))]
    rfl
  have HRlt : Hid (∀ i, stR Bs Bl so rt.length i → i < B12) := fun i hi => by have := HI9.out.1.lt i hi; omega
  have HI10 := hide (And.intro (HI9.out.1.grown H10.out.1) HI9.out.2)
  have G10 := hide (grown_trans G9.out H10.out.1)
  have H12 := hide H10.out.2
  clear HI9 D9 HB99 HB49 G9 H10 HSh HB4 HI2
  refine (wpIn_wide (n := 6)).1 (wpIn_range_F (w := w10) rfl (by decide) (gf := 41) (lb := #[.pointer (some ⟨Bs, 0, none⟩), .pointer (some ⟨Bl, 0, none⟩)]) rfl trivial (enters_of Tryz.func41 (by kernel_rfl) rfl)
    (encs := encS) (R := stR Bs Bl so rt.length) (E := fun x => x.2.own) (V := StV (nS a b c) rt) (S := fun xs => xs.length = m1)
    HI10.out.1.lt (fun W hW => HSq.out Bs Bl so cap' W (HI10.out.1.grown hW)) (fun _ => rfl) (fun pre x A B h k => StV.keep h k)
    (fun pre O W => OfI w10 W B12 pre O) (fun _ _ _ _ => False)
    (OfI.goes (by omega)) (fun _ _ _ _ _ _ h _ _ => h) ⟨Kept.refl _ _, fun _ e => e.elim, H12.out⟩
    ?afr ?assign ?body ?done ?stop)
  case assign =>
    intro l y W K hK
    simp only [encS]
    gi_wp2
    exact hK
  case stop =>
    rintro D cd pre O W hD hX
    exact hX.elim
  case body =>
    rintro l pre y O W hI hV hsz hE hO
    have hyk : y.1 = pre.length := hV.1
    obtain ⟨hDl, c9, -⟩ := HDW.out W hI.kp
    have hym := HSv.out pre y W hV
    obtain ⟨⟨dk, uk⟩, hdk⟩ : ∃ x, ds[y.1]? = some x := ⟨ds[y.1]'(by rw [hDl.len]; have := HM1.out; omega), List.getElem?_eq_getElem _⟩
    have ck := hDl.cell hdk
    have HCl := hide (is_any hV.2.2 (HWk.out y.1) (hDl.bk y.1 _ hdk))
    dsimp only at ck HCl
    have c12 : W.cell? ⟨B12, 0, none⟩ = some (.int .i64 (y.1 : Int)) := by have := cell_row hI.bx 0; rw [hyk]; simpa using this
    obtain ⟨K1, hK1⟩ : ∃ K1 : Int, K1 = ((y.1 + 1 : Nat) : Int) := ⟨_, rfl⟩
    have W2 : IntKind.i64.wrap ((y.1 : Int) + 1) = K1 := by rw [IntKind.wrap_i64]; omega
    obtain ⟨PQ, hPQ⟩ : ∃ PQ, PQ = postW (fun i => O i ∨ stR Bs Bl so rt.length i) O (fun pre O W => OfI w10 W B12 pre O) (fun _ _ _ _ => False) (pre ++ [y]) W := ⟨_, rfl⟩
    rw [← hPQ]
    have HPs : Hid (∀ (a' : Act) (W' : World), W.grownBy W' none → PQ .normal a' (W'.setCell ⟨B12, 0, none⟩ (.int .i64 K1))) := by
      intro a' W' h1
      rw [hPQ]
      have ks := kept_setCell W' B12 0 (.int .i64 K1)
      refine ⟨(Kept.new h1 _).trans ks (fun i _ e => ?_), (hI.kp.trans (Kept.new h1 (fun _ => False)) (fun i _ e => e.elim)).trans ks (fun i _ e => e), hI.no, ?_⟩
      · rintro (e2 | e2)
        · have := (hO i e2).1; omega
        · rcases HI10.out.2 i e2 with e3 | e3
          · omega
          · have := HRlt.out i e2; omega
      · rw [List.length_append, List.length_cons, List.length_nil, Nat.zero_add, ← hyk, ← hK1]
        exact row_setCell ((h1.block _ (row_lt hI.bx) (by simp)).trans hI.bx) 0 _
    have HC12 : Hid (∀ W', W.grownBy W' none → W'.cell? ⟨B12, 0, none⟩ = some (.int .i64 (y.1 : Int)) ∧ W'.frozen? ⟨B12, 0, none⟩ = false) := fun W' h1 => ⟨h1.cell c12 (by simp), free_row ((h1.block _ (row_lt hI.bx) (by simp)).trans hI.bx) 0⟩
    have j0 : (0 : Int) ≤ (y.1 : Int) := by omega
    have j1 : (y.1 : Int) < (m1 : Int) := by have := HM1.out; omega
    clear hPQ hV hI hE hO hsz hDl hyk hym hdk hK1
    generalize y.1 = k at *
    generalize y.2.b = yb at *
    gi_wp2_with fail
    refine ⟨trivial, ?_⟩
    refine (CallsIn.inRound l (callsIn_wide.2 HCl.out)).mono ?_
    rintro e wz ⟨rfl, gz⟩
    obtain ⟨e12, f12⟩ := HC12.out wz gz
    have HF := hide (fun a' => HPs.out a' wz gz)
    clear HPs gz HCl c9 ck c12
    gi_wp2
    exact HF.out _
  case done =>
    rintro D xs O W hD hS hI hOD hK
    have hbx := hI.bx
    rw [hS] at hbx
    have c12 : W.cell? ⟨B12, 0, none⟩ = some (.int .i64 (m1 : Int)) := by have := cell_row hbx 0; simpa using this
    obtain ⟨-, c9, h4⟩ := HDW.out W hI.kp
    have gW := kept_grown G10.out hI.kp (fun i e => by have := HG1.out.size; omega)
    have HA := hide (HAw.out W gW)
    have HX := hide (And.intro gW (And.intro hK (And.intro hD h4)))
    clear hbx gW hI hK hOD hS HDW HAw HI10 HSq HSv G10 H12 h4
    go_wp2_with fail
    refine HA.out.mono ?_
    rintro e wz ⟨rfl, gz⟩
    have HRw : Hid (wz.heap[w.heap.size + 1]? = some (.cells [Value.bool false].toArray 4 (0, 0))) := (gz.block _ (row_lt HX.out.2.2.2) (by simp)).trans HX.out.2.2.2
    have cr : wz.cell? ⟨w.heap.size + 1, 0, none⟩ = some (.bool false) := by rw [cell_row HRw.out]; rfl
    have cz := free_row HRw.out 0
    have H9 := hide gz
    clear gz HA c12 c9
    go_wp2
    obtain ⟨x1, x2, x3, -⟩ := HX.out
    have gs := grown_setCell wz (w.heap.size + 1) 0 (Value.bool true)
    have hD1 : D ≠ w.heap.size + 1 := fun e => by rw [e] at x3; omega
    have hK1 := (H9.out.block D (row_lt x2) (by simp)).trans x2
    have hK' : (wz.setCell ⟨w.heap.size + 1, 0, none⟩ (Value.bool true)).heap[D]? = _ := (gs.block D (row_lt hK1) (fun e => hD1 (Option.some.inj e))).trans hK1
    refine ⟨by simp, .inl ⟨_, _, rfl, run_takeDeferred hK', ?_⟩⟩
    refine ⟨_, results_cell4 rfl _ _ (w.heap.size + 1) (.bool true) rfl ?_, rfl, ?_⟩
    · exact (grownBy_putObj' _ D _).cell (by rw [cell_row (row_setCell HRw.out 0 _)]; rfl) (fun e => hD1 (Option.some.inj e).symm)
    · refine grown_then (grown_then (grown_trans x1 H9.out) gs (fun j e => .inl (by cases e; omega))) (grownBy_putObj' _ D _) (fun j e => by cases e; exact Or.inl (by have := HG1.out.size; omega))
end Go.Proofs.YtinkkocleognbaaGreatDoor
