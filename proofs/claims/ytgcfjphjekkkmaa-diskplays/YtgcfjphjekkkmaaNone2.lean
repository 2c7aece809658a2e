/- A call of no disk tells what it should. -/
import Derived.Test.YtgcfjphjekkkmaaNone
namespace Go.Proofs.Ytgcfjphjekkkmaa
open Go.RowKit Ap
attribute [local go_sem ↓] Go.wp_at_zero Go.wp_at_succ

/-- An operation's six cells. -/
def opV (o : Int × Int × Int × Int × Int) (fo : Option Addr) (m c : Nat) : Array Value := #[.int .i64 o.1, .int .i64 o.2.1, .int .i64 o.2.2.1, .int .i64 o.2.2.2.1, .int .i64 o.2.2.2.2, .slice fo m c]
theorem pick7 (x : Int) : x % 7 = 0 ∨ x % 7 = 1 ∨ x % 7 = 2 ∨ x % 7 = 3 ∨ x % 7 = 4 ∨ x % 7 = 5 ∨ x % 7 = 6 := by omega

set_option maxRecDepth 20000 in
set_option maxHeartbeats 4000000 in
theorem one_none (p : Option Addr) (rb : Nat) (d0 d1 d2 d3 d4 : Int) (fo : Option Addr) (m c : Nat) (F : List (Int × Int)) (w : World) (hp : NoDisk w p) (hr : Empty w rb) (hm : F.length = m) (hF : FatesAt w fo F) (hnil : fo = none → m = 0 ∧ c = 0) (hb : m * 16 ≤ 140737488355000) :
    Calls Try.prog 15 #[.pointer p, .pointer (some ⟨rb, 0, none⟩), .agg #[.int .i64 d0, .int .i64 d1, .int .i64 d2, .int .i64 d3, .int .i64 d4, .slice fo m c]] w fun e w' => e = .returned (.bool true) ∧ w.grownBy w' none := by
  have g0 := World.grownBy_alloc w (.cells #[.int .i64 d0, .int .i64 d1, .int .i64 d2, .int .i64 d3, .int .i64 d4, .slice fo m c] 37) none
  have HB : Hid (∀ (j : Nat) (v : Value), [Value.int .i64 d0, .int .i64 d1, .int .i64 d2, .int .i64 d3, .int .i64 d4, .slice fo m c][j]? = some v → ∀ w', (w.alloc (.cells #[.int .i64 d0, .int .i64 d1, .int .i64 d2, .int .i64 d3, .int .i64 d4, .slice fo m c] 37)).grownBy w' none → w'.cell? ⟨w.heap.size, j, none⟩ = some v) := fun j v hv w' hg =>
    hg.cell ((cell_row (l := [Value.int .i64 d0, .int .i64 d1, .int .i64 d2, .int .i64 d3, .int .i64 d4, .slice fo m c]) (heap_alloc_new w _) j).trans hv) (by simp)
  have HP : Hid (∀ w, Calls Try.prog 14 #[.int .i64 d0, .int .i64 7] w fun e w' => e = .returned (.int .i64 (d0 % 7)) ∧ w' = w) := fun w => pick_any d0 7 7 w rfl (by omega) (by omega)
  have H0 := hide (And.intro (hp.grown g0) (And.intro (hr.grown g0) (And.intro hm (And.intro (hF.grown g0) (And.intro hnil (And.intro hb g0))))))
  clear hp hr hm hF hnil hb g0
  have b0 := HB.out 0 _ rfl _ (grown_refl _ _)
  have b1 := HB.out 1 _ rfl _ (grown_refl _ _)
  have b2 := HB.out 2 _ rfl _ (grown_refl _ _)
  have b3 := HB.out 3 _ rfl _ (grown_refl _ _)
  have b4 := HB.out 4 _ rfl _ (grown_refl _ _)
  have b5 := HB.out 5 _ rfl _ (grown_refl _ _)
  have HLT : Hid (w.heap.size < (w.alloc (.cells #[.int .i64 d0, .int .i64 d1, .int .i64 d2, .int .i64 d3, .int .i64 d4, .slice fo m c] 37)).heap.size) := row_lt (heap_alloc_new w _)
  rcases pick7 d0 with h | h | h | h | h | h | h <;> rw [h] at HP <;> clear h
  · -- Write
    go_enter Try.func15, Try.ntmps15
    go_wp2_with fail
    refine (HP.out _).mono ?_
    rintro e w' ⟨rfl, rfl⟩
    go_wp2_with fail
    generalize w.alloc (.cells #[.int .i64 d0, .int .i64 d1, .int .i64 d2, .int .i64 d3, .int .i64 d4, .slice fo m c] 37) = w0 at *
    generalize w.heap.size = B at *
    go_region_held3 (fun w' => w'.cell? ⟨B, 0, none⟩ = some (.int .i64 d0) ∧ w'.cell? ⟨B, 1, none⟩ = some (.int .i64 d1) ∧ w'.cell? ⟨B, 2, none⟩ = some (.int .i64 d2) ∧ w'.cell? ⟨B, 3, none⟩ = some (.int .i64 d3) ∧ w'.cell? ⟨B, 4, none⟩ = some (.int .i64 d4) ∧ w'.cell? ⟨B, 5, none⟩ = some (.slice fo m c)) (first | exact ⟨b0, b1, b2, b3, b4, b5⟩ | assumption | go_keep) (first
      | (go_at_call 39; refine (rsize0 (H0.out.2.1.grown (grown_drew _ _))).mono ?_; rintro e w1 ⟨rfl, rfl⟩)
      | (go_at_call 38; refine (opBytes_any d0 d1 d2 d3 d4 (.slice fo m c) rfl 0 (by omega) _).mono ?_; rintro e w1 ⟨g, rfl, a1, l1, g1⟩; have g1' := grown_trans (grown_drew w0 none) g1; have hS1 : w1.cell? ⟨B, 0, none⟩ = some (.int .i64 d0) ∧ w1.cell? ⟨B, 1, none⟩ = some (.int .i64 d1) ∧ w1.cell? ⟨B, 2, none⟩ = some (.int .i64 d2) ∧ w1.cell? ⟨B, 3, none⟩ = some (.int .i64 d3) ∧ w1.cell? ⟨B, 4, none⟩ = some (.int .i64 d4) ∧ w1.cell? ⟨B, 5, none⟩ = some (.slice fo m c) := ⟨g1'.cell b0 (by simp), g1'.cell b1 (by simp), g1'.cell b2 (by simp), g1'.cell b3 (by simp), g1'.cell b4 (by simp), g1'.cell b5 (by simp)⟩; have A1 := hide (And.intro a1 (And.intro l1 g1')); clear a1 l1 g1 g1'))
    have hL := opLen_le d4 0
    obtain ⟨L, hL2⟩ : ∃ L, L = opLen d4 0 := ⟨_, rfl⟩
    rw [← hL2] at A1 hL ⊢
    clear hL2
    have HL := hide (lent_any (some ⟨g, 0, none⟩) L L (fills d3 L) w1 (fills_length _ _) (at_row A1.out.1) (fun e => by cases e) (by omega))
    clear hS1 b0 b1 b2 b3 b4 b5
    go_wp2_with fail
    refine HL.out.mono ?_
    rintro e w2 ⟨v, rfl, l2, g2⟩
    obtain ⟨g', cap', rfl, x1, x2, x3, x4, x5, cur, x6, x7⟩ := l2.all
    rw [fills_length] at x1 ⊢
    have g02 := grown_trans A1.out.2.2 g2
    have x67 : ∃ cur : Array Value, w2.heap[g']? = some (.cells cur 5 (0, 0)) ∧ cur.size = cap' := ⟨cur, x6, x7⟩
    have A2 := hide (And.intro g02 (And.intro x3 (And.intro x5 (And.intro x67 ((g2.block _ (row_lt A1.out.1) (by simp)).trans A1.out.1)))))
    have y2 := HB.out 2 _ rfl w2 g02
    clear x3 x4 x5 x6 x7 x67 g02 g2 l2 HL
    go_wp2_with fail
    refine (write_none p d2 _ w2 (H0.out.1.grown A2.out.1)).mono ?_
    rintro e w3 ⟨rfl, rfl⟩
    go_wp2_with fail
    refine (kept_any g' cap' (some ⟨g, 0, none⟩) L L (fills d3 L) w3 (fills_length _ _) x1 x2 A2.out.2.2.1 (at_row A2.out.2.2.2.2) (by omega)).mono ?_
    rintro e w4 ⟨rfl, g4⟩
    have A4 := hide g4
    have z2 := g4.cell y2 (by simp)
    clear g4 y2
    go_wp2_with fail
    refine (over_any g' cap' L w4 (by obtain ⟨cur, h1, h2⟩ := A2.out.2.2.2.1; exact ⟨cur, (A4.out.block _ (row_lt h1) (by simp)).trans h1, h2⟩) x1 x2 (by omega)).mono ?_
    rintro e w5 ⟨rfl, g5⟩
    have hB5 : B < g' := Nat.lt_of_lt_of_le (Nat.lt_of_lt_of_le HLT.out A1.out.2.2.size) A2.out.2.1
    have u2 := g5.cell z2 (by intro e; have e : B = g' := Option.some.inj e; omega)
    have A5 := hide g5
    have hrb : rb < w3.heap.size := row_lt (H0.out.2.1.grown A2.out.1)
    have HE : Hid (Empty w5 rb) := (g5.block rb (Nat.lt_of_lt_of_le hrb A4.out.size) (by intro e; have e : rb = g' := Option.some.inj e; have := row_lt H0.out.2.1; have := A1.out.2.2.size; have := A2.out.2.1; omega)).trans ((H0.out.2.1.grown A2.out.1).grown A4.out)
    clear g5 z2 hrb
    go_wp2_with fail
    refine (rwrite0 HE.out d2 _).mono ?_
    rintro e w6 ⟨rfl, rfl⟩
    go_wp2
    go_ret
    refine ⟨rfl, ?_⟩
    exact grown_then (grown_trans (grown_trans H0.out.2.2.2.2.2.2 A2.out.1) A4.out) A5.out (fun j e => Or.inl (by have := Option.some.inj e; have := H0.out.2.2.2.2.2.2.size; have := A1.out.2.2.size; have := A2.out.2.1; omega))
  · go_enter Try.func15, Try.ntmps15
    go_wp2_with fail
    refine (HP.out _).mono ?_
    rintro e w' ⟨rfl, rfl⟩
    generalize w.alloc (.cells #[.int .i64 d0, .int .i64 d1, .int .i64 d2, .int .i64 d3, .int .i64 d4, .slice fo m c] 37) = w0 at *
    generalize w.heap.size = B at *
    go_wp2_with fail
    refine (read_none p d2 w0 H0.out.1).mono ?_
    rintro e w1 ⟨rfl, rfl⟩
    go_wp2_with fail
    refine (rread0 H0.out.2.1 d2).mono ?_
    rintro e w2 ⟨rfl, rfl⟩
    go_wp2_with fail
    refine (sameBytes_eq none none 0 0 0 [] w2 rfl (At.nil _ _) (At.nil _ _) (by omega)).mono ?_
    rintro e w3 ⟨rfl, q, rfl⟩
    go_wp2
    go_ret
    exact ⟨rfl, grown_trans H0.out.2.2.2.2.2.2 (grown_drewN _ _ _)⟩
  · go_enter Try.func15, Try.ntmps15
    go_wp2_with fail
    refine (HP.out _).mono ?_
    rintro e w' ⟨rfl, rfl⟩
    generalize w.alloc (.cells #[.int .i64 d0, .int .i64 d1, .int .i64 d2, .int .i64 d3, .int .i64 d4, .slice fo m c] 37) = w0 at *
    generalize w.heap.size = B at *
    go_wp2_with fail
    refine (sync_none p w0 H0.out.1).mono ?_
    rintro e w1 ⟨rfl, rfl⟩
    go_wp2_with fail
    refine (rsync0 H0.out.2.1).mono ?_
    rintro e w2 ⟨rfl, rfl⟩
    go_wp2
    go_ret
    exact ⟨rfl, H0.out.2.2.2.2.2.2⟩
  · go_enter Try.func15, Try.ntmps15
    go_wp2_with fail
    refine (HP.out _).mono ?_
    rintro e w' ⟨rfl, rfl⟩
    generalize w.alloc (.cells #[.int .i64 d0, .int .i64 d1, .int .i64 d2, .int .i64 d3, .int .i64 d4, .slice fo m c] 37) = w0 at *
    generalize w.heap.size = B at *
    go_wp2_with fail
    refine (waiting_none p w0 H0.out.1).mono ?_
    rintro e w1 ⟨rfl, rfl⟩
    go_wp2_with fail
    refine (rwaiting0 H0.out.2.1).mono ?_
    rintro e w2 ⟨rfl, rfl⟩
    go_wp2_with fail
    refine (sectors_none p w2 H0.out.1).mono ?_
    rintro e w1 ⟨rfl, rfl⟩
    go_wp2_with fail
    refine (rsectors0 H0.out.2.1).mono ?_
    rintro e w2 ⟨rfl, rfl⟩
    go_wp2_with fail
    refine (size_none p w2 H0.out.1).mono ?_
    rintro e w1 ⟨rfl, rfl⟩
    go_wp2_with fail
    refine (rsize0 H0.out.2.1).mono ?_
    rintro e w2 ⟨rfl, rfl⟩
    go_wp2
    go_ret
    exact ⟨rfl, H0.out.2.2.2.2.2.2⟩
  · go_enter Try.func15, Try.ntmps15
    go_wp2_with fail
    refine (HP.out _).mono ?_
    rintro e w' ⟨rfl, rfl⟩
    generalize w.alloc (.cells #[.int .i64 d0, .int .i64 d1, .int .i64 d2, .int .i64 d3, .int .i64 d4, .slice fo m c] 37) = w0 at *
    generalize w.heap.size = B at *
    go_wp2_with fail
    refine (lentF_any fo m c F w0 H0.out.2.2.1 H0.out.2.2.2.1 H0.out.2.2.2.2.1 H0.out.2.2.2.2.2.1).mono ?_
    rintro e w1 ⟨g, cap', rfl, o1, l1, l2, g1⟩
    have A1 := hide (And.intro o1 (And.intro l1 (And.intro l2 g1)))
    have y5 := HB.out 5 _ rfl w1 g1
    clear o1 l1 l2 g1
    go_wp2_with fail
    refine (crash_none p (some ⟨g, 0, none⟩) m cap' w1 (H0.out.1.grown A1.out.2.2.2)).mono ?_
    rintro e w2 ⟨rfl, g2⟩
    have A2 := hide g2
    have z5 := g2.cell y5 (by simp)
    clear g2 y5
    go_wp2_with fail
    refine (rcrash0 ((H0.out.2.1.grown A1.out.2.2.2).grown A2.out) _).mono ?_
    rintro e w3 ⟨rfl, rfl⟩
    go_wp2_with fail
    refine (keptF_any g cap' fo m c F w3 H0.out.2.2.1 A1.out.2.1 A1.out.2.2.1 ((own_fates A1.out.1).grown A2.out) ((H0.out.2.2.2.1.grown A1.out.2.2.2).grown A2.out) (by have := H0.out.2.2.2.2.2.1; omega)).mono ?_
    rintro e w4 ⟨rfl, g4⟩
    have A4 := hide g4
    clear g4
    go_wp2
    go_ret
    exact ⟨rfl, grown_trans (grown_trans (grown_trans H0.out.2.2.2.2.2.2 A1.out.2.2.2) A2.out) A4.out⟩
  · go_enter Try.func15, Try.ntmps15
    go_wp2_with fail
    refine (HP.out _).mono ?_
    rintro e w' ⟨rfl, rfl⟩
    generalize w.alloc (.cells #[.int .i64 d0, .int .i64 d1, .int .i64 d2, .int .i64 d3, .int .i64 d4, .slice fo m c] 37) = w0 at *
    generalize w.heap.size = B at *
    go_wp2_with fail
    refine (image_none p w0 H0.out.1).mono ?_
    rintro e w1 ⟨rfl, g1⟩
    have A1 := hide g1
    clear g1
    go_wp2_with fail
    refine (rimage0 (H0.out.2.1.grown A1.out)).mono ?_
    rintro e w2 ⟨rfl, rfl⟩
    go_wp2_with fail
    refine (sameRows_eq (some ⟨w0.heap.size, 0, none⟩) none 0 0 0 [] w2 rfl (fun j xs h => by simp at h) (fun j xs h => by simp at h) (by omega)).mono ?_
    rintro e w3 ⟨rfl, q, rfl⟩
    go_wp2
    go_ret
    exact ⟨rfl, grown_trans (grown_trans H0.out.2.2.2.2.2.2 A1.out) (grown_drewN _ _ _)⟩
  · go_enter Try.func15, Try.ntmps15
    go_wp2_with fail
    refine (HP.out _).mono ?_
    rintro e w' ⟨rfl, rfl⟩
    generalize w.alloc (.cells #[.int .i64 d0, .int .i64 d1, .int .i64 d2, .int .i64 d3, .int .i64 d4, .slice fo m c] 37) = w0 at *
    generalize w.heap.size = B at *
    go_wp2_with fail
    refine (copy_none p w0 H0.out.1).mono ?_
    rintro e w1 ⟨rfl, rfl⟩
    go_wp2_with fail
    refine (rsectors0 H0.out.2.1).mono ?_
    rintro e w2 ⟨rfl, rfl⟩
    go_wp2
    go_ret
    exact ⟨rfl, H0.out.2.2.2.2.2.2⟩

set_option maxRecDepth 20000 in
set_option maxHeartbeats 4000000 in
theorem none_any (d0 d1 d2 d3 d4 : Int) (fo : Option Addr) (m c : Nat) (F : List (Int × Int)) (w : World) (hm : F.length = m) (hF : FatesAt w fo F) (hnil : fo = none → m = 0 ∧ c = 0) (hb : m * 16 ≤ 140737488355000) :
    Calls Try.prog 5 #[.agg #[.int .i64 d0, .int .i64 d1, .int .i64 d2, .int .i64 d3, .int .i64 d4, .slice fo m c]] w fun e w' => e = .returned (.bool true) ∧ w.grownBy w' none := by
  have g0 := World.grownBy_alloc w (.cells #[.int .i64 d0, .int .i64 d1, .int .i64 d2, .int .i64 d3, .int .i64 d4, .slice fo m c] 37) none
  have HB : Hid (∀ w', (w.alloc (.cells #[.int .i64 d0, .int .i64 d1, .int .i64 d2, .int .i64 d3, .int .i64 d4, .slice fo m c] 37)).grownBy w' none → w'.cell? ⟨w.heap.size, 0, none⟩ = some (.int .i64 d0) ∧ w'.cell? ⟨w.heap.size, 1, none⟩ = some (.int .i64 d1) ∧ w'.cell? ⟨w.heap.size, 2, none⟩ = some (.int .i64 d2) ∧ w'.cell? ⟨w.heap.size, 3, none⟩ = some (.int .i64 d3) ∧ w'.cell? ⟨w.heap.size, 4, none⟩ = some (.int .i64 d4) ∧ w'.cell? ⟨w.heap.size, 5, none⟩ = some (.slice fo m c)) := fun w' hg => by
    have key : ∀ (j : Nat) (v : Value), [Value.int .i64 d0, .int .i64 d1, .int .i64 d2, .int .i64 d3, .int .i64 d4, .slice fo m c][j]? = some v → w'.cell? ⟨w.heap.size, j, none⟩ = some v := fun j v hv =>
      hg.cell ((cell_row (l := [Value.int .i64 d0, .int .i64 d1, .int .i64 d2, .int .i64 d3, .int .i64 d4, .slice fo m c]) (heap_alloc_new w _) j).trans hv) (by simp)
    exact ⟨key 0 _ rfl, key 1 _ rfl, key 2 _ rfl, key 3 _ rfl, key 4 _ rfl, key 5 _ rfl⟩
  have H0 := hide (And.intro hm (And.intro (hF.grown g0) (And.intro hnil (And.intro hb g0))))
  clear hm hF hnil hb g0
  go_enter Try.func5, Try.ntmps5
  go_wp2_with fail
  generalize w.alloc (.cells #[.int .i64 d0, .int .i64 d1, .int .i64 d2, .int .i64 d3, .int .i64 d4, .slice fo m c] 37) = w0 at *
  generalize w.heap.size = B at *
  refine (awake_any _).mono ?_
  rintro e w1 ⟨rfl, g1⟩
  have G1 := hide g1
  clear g1
  have g2 := World.grownBy_alloc w1 (.cells #[.slice none 0 0, .slice none 0 0] 54) none
  have G2 := hide (grown_trans G1.out g2)
  have HE : Hid (Empty (w1.alloc (.cells #[.slice none 0 0, .slice none 0 0] 54)) w1.heap.size) := heap_alloc_new w1 _
  have hS := HB.out _ G2.out
  clear g2
  obtain ⟨s0, s1, s2, s3, s4, s5⟩ := hS
  go_wp2_with fail
  refine (one_none none w1.heap.size d0 d1 d2 d3 d4 fo m c F _ (Or.inl rfl) HE.out H0.out.1 (H0.out.2.1.grown G2.out) H0.out.2.2.1 H0.out.2.2.2.1).mono ?_
  rintro e w3 ⟨rfl, g3⟩
  have G3 := hide (grown_trans G2.out g3)
  clear g3 s0 s1 s2 s3 s4 s5
  have g4 := World.grownBy_alloc w3 (.cells #[.bool false, .int .i64 0, .slice none 0 0, .slice none 0 0, .map none] 58) none
  have g5 := World.grownBy_alloc (w3.alloc (.cells #[.bool false, .int .i64 0, .slice none 0 0, .slice none 0 0, .map none] 58)) (.cells #[.slice none 0 0, .slice none 0 0] 54) none
  have G5 := hide (grown_trans (grown_trans G3.out g4) g5)
  have HN : Hid (NoDisk ((w3.alloc (.cells #[.bool false, .int .i64 0, .slice none 0 0, .slice none 0 0, .map none] 58)).alloc (.cells #[.slice none 0 0, .slice none 0 0] 54)) (some ⟨w3.heap.size, 0, none⟩)) :=
    Or.inr ⟨_, rfl, g5.cell (cell_row (l := [.bool false, .int .i64 0, .slice none 0 0, .slice none 0 0, .map none]) (heap_alloc_new w3 _) 0) (by simp)⟩
  have HE5 : Hid (Empty ((w3.alloc (.cells #[.bool false, .int .i64 0, .slice none 0 0, .slice none 0 0, .map none] 58)).alloc (.cells #[.slice none 0 0, .slice none 0 0] 54)) (w3.heap.size + 1)) := by
    have h := heap_alloc_new (w3.alloc (.cells #[.bool false, .int .i64 0, .slice none 0 0, .slice none 0 0, .map none] 58)) (.cells #[.slice none 0 0, .slice none 0 0] 54)
    have e : (w3.alloc (.cells #[.bool false, .int .i64 0, .slice none 0 0, .slice none 0 0, .map none] 58)).heap.size = w3.heap.size + 1 := Array.size_push ..
    rw [e] at h
    exact h
  obtain ⟨s0, s1, s2, s3, s4, s5⟩ := HB.out _ G5.out
  clear g4 g5
  go_wp2_with fail
  refine (one_none (some ⟨w3.heap.size, 0, none⟩) (w3.heap.size + 1) d0 d1 d2 d3 d4 fo m c F _ HN.out HE5.out H0.out.1 (H0.out.2.1.grown G5.out) H0.out.2.2.1 H0.out.2.2.2.1).mono ?_
  rintro e w6 ⟨rfl, g6⟩
  have G6 := hide g6
  clear g6
  go_wp2
  go_ret
  exact ⟨rfl, grown_trans (grown_trans H0.out.2.2.2.2 G5.out) G6.out⟩
end Go.Proofs.Ytgcfjphjekkkmaa
