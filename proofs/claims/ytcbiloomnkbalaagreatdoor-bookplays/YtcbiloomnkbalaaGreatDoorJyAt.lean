/- Texts joined: Ve, BkU, BkV, O3. -/
import Derived.Test.YtcbiloomnkbalaaGreatDoorJyAs
import Derived.Test.YtcbiloomnkbalaaGreatDoorJyAn
import Derived.Deep.CutRange
import Derived.Deep.DeepCutAuto
import Derived.Test.YtcbiloomnkbalaaGreatDoorJyAo
/- New refused; the document: New, Of. -/
namespace Go.Proofs.YtcbiloomnkbalaaGreatDoor
open Go.RowKit
attribute [local go_sem ↓] Go.wp_at_zero Go.wp_at_succ
attribute [local go_sem] Oper.semAt_some
set_option maxHeartbeats 4000000 in
theorem new_no {a b c : Int} (h : ¬ Gx.OkS a b c) (w : World) : Calls Tryz.prog 12 #[.agg #[.int .i64 a, .int .i64 b, .int .i64 c]] w fun e w' => e = .returned (.tuple #[.pointer none, .int .i64 90]) ∧ w.grownBy w' none := by
  have HC : Hid (∀ W : World, Calls Tryz.prog 39 #[.agg #[.int .i64 a, .int .i64 b, .int .i64 c]] W fun e w' => e = .returned (.int .i64 90) ∧ W.grownBy w' none) := fun W => Ge.check_no _ _ _ h W
  clear h
  go_enter Tryz.func12, Tryz.ntmps12
  go_wp2_with fail
  refine (HC.out _).mono ?_
  rintro e w1 ⟨rfl, hg1⟩
  have HG := hide (grown_trans (grown_alloc w _) hg1)
  clear hg1 HC
  go_wp2
  go_ret2
  exact ⟨rfl, HG.out⟩
set_option maxHeartbeats 4000000 in
theorem dnew_rz {a b c : Int} (h : ¬ Gx.OkS a b c) (w : World) : Calls Tryz.prog 16 #[.agg #[.int .i64 a, .int .i64 b, .int .i64 c]] w fun e w' => ∃ d, e = .returned (.tuple #[.pointer (some ⟨d, 0, none⟩), .int .i64 90]) ∧ RfZ w' d ∧ w.heap.size ≤ d ∧ w.grownBy w' none := by
  have HC : Hid (∀ W : World, Calls Tryz.prog 43 #[.agg #[.int .i64 a, .int .i64 b, .int .i64 c]] W fun e w' => e = .returned (.int .i64 90) ∧ W.grownBy w' none) := fun W => Ge.rcheck_no _ _ _ h W
  clear h
  go_enter Tryz.func16, Tryz.ntmps16
  go_wp2_with fail
  refine (HC.out _).mono ?_
  rintro e w1 ⟨rfl, hg1⟩
  have HG := hide (grown_trans (grown_alloc w _) hg1)
  clear hg1 HC
  go_wp2
  go_ret2
  exact ⟨w1.heap.size, rfl, ⟨heap_alloc_new w1 _⟩, HG.out.size, gn_alloc HG.out _⟩
/-- What the document's Of answers. -/
def RofP (w w' : World) (a b c : Int) (n : Nat) (t : Int) (X : List Bw) (e : Ending) : Prop :=
  (Right a b c n t X ∧ ∃ d v, e = .returned (.tuple #[.pointer (some ⟨d, 0, none⟩), .int .i64 0]) ∧ Db w' w.heap.size d v ⟨a.toNat, b.toNat, c.toNat, n, t, X.map Bw.bg⟩ ∧ w.grownBy w' none) ∨
  (¬ Right a b c n t X ∧ ∃ d, e = .returned (.tuple #[.pointer (some ⟨d, 0, none⟩), .int .i64 (ofE a b c)]) ∧ RfZ w' d ∧ w.heap.size ≤ d ∧ w.grownBy w' none)
theorem rof_no {a b c : Int} (h : ¬ Gx.OkS a b c) {w : World} {n : Nat} {t : Int} {X : List Bw} {ao : Option Addr} {len cap : Nat} : Calls Tryz.prog 15 #[.agg #[.int .i64 a, .int .i64 b, .int .i64 c], .int .u32 (n : Int), .int .i64 t, .slice ao len cap] w fun e w' => RofP w w' a b c n t X e := by
  have HE : Hid (∀ w' d, RfZ w' d → w.heap.size ≤ d → w.grownBy w' none → RofP w w' a b c n t X (.returned (.tuple #[.pointer (some ⟨d, 0, none⟩), .int .i64 90]))) := fun w' d h1 h2 h3 => .inr ⟨fun hr => h hr.1, d, by unfold ofE; rw [if_neg h], h1, h2, h3⟩
  have HC := hide (fun W => dnew_rz h W)
  clear h
  generalize RofP w = P at *
  go_enter Tryz.func15, Tryz.ntmps15
  go_wp2_with fail
  refine (HC.out _).mono ?_
  rintro e w1 ⟨d, rfl, h1, h2, h3⟩
  have HX := hide (HE.out w1 d h1 (by have := (grown_alloc w (.cells [.int .i64 a, .int .i64 b, .int .i64 c].toArray 23)).size; omega) (grown_trans (grown_alloc w _) h3))
  clear h1 h2 h3 HE HC
  go_wp2
  exact HX.out
set_option maxRecDepth 20000 in
set_option maxHeartbeats 16000000 in
theorem rof_yes {a b c : Nat} (h : Gx.OkS a b c) {w : World} {n : Nat} (_hn : n < 4294967296) {t : Int} {X : List Bw} {ao : Option Addr} {len cap : Nat} (hX : X.length = len) (hat : BwsAt w ao X) (hnil : ao = none → len = 0 ∧ cap = 0) (hl : len ≤ 65536) : Calls Tryz.prog 15 #[.agg #[.int .i64 (a : Int), .int .i64 (b : Int), .int .i64 (c : Int)], .int .u32 (n : Int), .int .i64 t, .slice ao len cap] w fun e w' => RofP w w' a b c n t X e := by
  have HYs : Hid (∀ w' d v, HdO a b n t X → Dw w' w.heap.size d v a b c n t X → w.grownBy w' none → RofP w w' a b c n t X (.returned (.tuple #[.pointer (some ⟨d, 0, none⟩), .int .i64 0]))) := fun w' d v h1 h2 h3 => .inl ⟨⟨h, h1.1.1, h1.1.2.1, h1.1.2.2, by rw [Int.toNat_natCast, Int.toNat_natCast]; exact h1.2⟩, d, v, rfl, by rw [Int.toNat_natCast, Int.toNat_natCast, Int.toNat_natCast]; exact h2.db h1.2, h3⟩
  have HNo : Hid (∀ w' d, ¬ HdO a b n t X → RfZ w' d → w.heap.size ≤ d → w.grownBy w' none → RofP w w' a b c n t X (.returned (.tuple #[.pointer (some ⟨d, 0, none⟩), .int .i64 180]))) := fun w' d h1 h2 h3 h4 => .inr ⟨fun hr => h1 ⟨⟨hr.2.1, hr.2.2.1, hr.2.2.2.1⟩, by have := hr.2.2.2.2; rw [Int.toNat_natCast, Int.toNat_natCast] at this; exact this⟩, d, by unfold ofE; rw [if_pos h], h2, h3, h4⟩
  have HC := hide (fun W => dnew_any h W)
  have HAt := hide hat
  have HX := hide (And.intro hX hl)
  have ha : a ≤ 1024 := by unfold Gx.OkS at h; omega
  have HMay : Hid (∀ W d v, Dw W w.heap.size d v a b c n t X → Calls Tryz.prog 19 #[.pointer (some ⟨d, 0, none⟩)] W fun e w' => MgP W w' (HdO a b n t X) e) := fun W d v hD => rmayG hD ha (by omega)
  generalize RofP w = P at *
  unfold limV at HC
  obtain ⟨i0, hi, hz0, hz1, hz2⟩ := info_parts Tryz.info78
  have HI := hide (And.intro hi (And.intro hz0 (And.intro hz1 hz2)))
  clear hat h hX hl ha hi hz0 hz1 hz2
  go_enter Tryz.func15, Tryz.ntmps15
  go_wp2_with fail
  refine (HC.out _).mono ?_
  rintro e w1 ⟨d, rfl, hD, hg⟩
  have ga := grown_alloc w (.cells [.int .i64 (a : Int), .int .i64 (b : Int), .int .i64 (c : Int)].toArray 23)
  have hlo : w.heap.size ≤ d := by have := hD.ge; have := ga.size; omega
  have HG1 := hide (And.intro (grown_trans ga hg) hlo)
  have hh := hD.head
  have HH := hide hh
  have y5 := free_row hh 5
  have y6 := free_row hh 6
  have x5 := hD.cell (j := 5) rfl
  have x6 := hD.cell (j := 6) rfl
  have h2 := row_setCell (row_setCell hh 5 (.int .u32 (n : Int))) 6 (.int .i64 t)
  have HH2 : Hid (((w1.setCell ⟨d, 5, none⟩ (.int .u32 (n : Int))).setCell ⟨d, 6, none⟩ (.int .i64 t)).heap[d]? = some (.cells [Value.bool true, .int .i64 (a : Int), .int .i64 (b : Int), .int .i64 (c : Int), .slice none 0 0, .int .u32 (n : Int), .int .i64 t].toArray 52 (0, 0))) := h2
  have HG2 : Hid (w.grownBy ((w1.setCell ⟨d, 5, none⟩ (.int .u32 (n : Int))).setCell ⟨d, 6, none⟩ (.int .i64 t)) none) := gn_set (gn_set HG1.out.1 hlo) hlo
  clear hD hg ga hlo hh h2 HC
  go_upto_region 6 with fail
  generalize World.setCell (World.setCell w1 _ _) _ _ = w2 at *
  clear x5 x6 y5 y6 HH
  have x4 : w2.cell? ⟨d, 4, none⟩ = some (.slice none 0 0) := by rw [cell_row HH2.out]; rfl
  have y4 := free_row HH2.out 4
  have HFin : Hid (∀ W v, w2.grownBy W none → W.ownsRow w.heap.size 78 3 v X.length (bwcs X) → Dw (W.setCell ⟨d, 4, none⟩ v) w.heap.size d v a b c n t X ∧ w.grownBy (W.setCell ⟨d, 4, none⟩ v) none ∧ W.cell? ⟨d, 4, none⟩ = some (.slice none 0 0) ∧ W.frozen? ⟨d, 4, none⟩ = false) := by
    intro W v g hr
    have hb := box_to HH2.out g
    have hgs := grown_setCell W d 4 v
    refine ⟨⟨row_setCell hb 4 v, Ix.row_keep hr (fun q hq => ?_), HG1.out.2⟩, gn_set (grown_trans HG2.out g) HG1.out.2, by rw [cell_row hb]; rfl, free_row hb 4⟩
    obtain ⟨h1, cur, h3⟩ := Ix.own_block hr hq
    refine hgs.block q (row_lt h3) (fun e => ?_)
    rw [Option.some.inj e, hb] at h3
    cases h3
  have HB4 : Hid (∀ (W : World) v, Dw W w.heap.size d v a b c n t X → w.grownBy W none → Calls Tryz.prog 19 #[.pointer (some ⟨d, 0, none⟩)] W fun e w' => MgP W w' (HdO a b n t X) e) := fun W v h1 _ => HMay.out W d v h1
  clear HH2 HMay
  cases ao with
  | none =>
    obtain ⟨rfl, rfl⟩ := hnil rfl
    have hX0 : X = [] := List.eq_nil_of_length_eq_zero HX.out.1
    obtain ⟨f1, f2, f3, f4⟩ := HFin.out w2 (.slice none 0 0) (grown_refl _ _) (by rw [hX0]; exact World.ownsRow_nil _ _ _ _)
    have HF := hide (And.intro f1 f2)
    clear f1 f2 f3 f4 HFin hnil HG2
    go_wp2_with fail
    refine (HB4.out _ _ HF.out.1 HF.out.2).mono ?_
    rintro e w4 ⟨r, rfl, hr, g4⟩
    cases r with
    | true =>
      have HE := hide (HYs.out w4 d _ (hr.1 rfl) (HF.out.1.then g4) (grown_trans HF.out.2 g4))
      clear hr g4 HYs HNo
      go_wp2
      exact HE.out
    | false =>
      have HE := hide (HNo.out (w4.alloc (.cells rz.toArray 52)) w4.heap.size (fun hh => by have := hr.2 hh; cases this) ⟨heap_alloc_new w4 _⟩ (by have := HF.out.2.size; have := g4.size; omega) (gn_alloc (grown_trans HF.out.2 g4) _))
      unfold rz at HE
      clear hr g4 HYs HNo
      go_wp2
      exact HE.out
  | some ad =>
    have hcells : ∀ j u, (bwcs X)[j]? = some u → w2.cell? (Addr.add ad j) = some u := by
      by_cases h0 : X = []
      · subst h0; intro j u hj; simp [bwcs] at hj
      · have hA := HAt.out.grown HG2.out
        obtain ⟨g, off, e⟩ := hA.form h0
        cases e
        exact hA.cells
    have HCl := hide hcells
    clear hcells hnil
    have HB2 : Hid (w.heap.size ≤ w2.heap.size) := HG2.out.size
    go_wp2_with (at_builtin; refine wpList_append_own _ rfl (.tmp 33) (.tmp 34) 25 rfl w2.heap.size 78 i0 (.agg #[.int .u32 0, .int .i64 0, .int .i64 0]) 3 24 Tryz.underlying25 HI.out.1 HI.out.2.1 HI.out.2.2.1 HI.out.2.2.2 rfl (by decide) (.slice none 0 0) 0 [] rfl (World.ownsRow_nil _ _ _ _) ad len cap (bwcs X) rfl (by rw [bwcs_length, HX.out.1]) HCl.out (bwcs_one X) (by have := HX.out.2; unfold maxLen; omega) (by have := HX.out.2; omega) (Nat.le_refl _) ?_)
    intro v' w3 ho hg hv
    clear hv
    have g3 : w2.grownBy w3 none := grown_then (grown_refl w2 none) hg (fun k e => by cases e)
    have ho2 : w3.ownsRow w.heap.size 78 3 v' X.length (bwcs X) := by
      have h9 := own_base ho HB2.out
      rw [HX.out.1]
      simpa using h9
    obtain ⟨f1, f2, f3, f4⟩ := HFin.out w3 v' g3 ho2
    have HF := hide (And.intro f1 f2)
    obtain ⟨ao', cap', rfl, -⟩ := Ix.own_form ho
    clear ho hg g3 ho2 f1 f2 HFin HG2 x4 y4 HCl HB2
    go_wp2_with fail
    refine (HB4.out _ _ HF.out.1 HF.out.2).mono ?_
    rintro e w4 ⟨r, rfl, hr, g4⟩
    cases r with
    | true =>
      have HE := hide (HYs.out w4 d _ (hr.1 rfl) (HF.out.1.then g4) (grown_trans HF.out.2 g4))
      clear hr g4 HYs HNo f3 f4
      go_wp2
      exact HE.out
    | false =>
      have HE := hide (HNo.out (w4.alloc (.cells rz.toArray 52)) w4.heap.size (fun hh => by have := hr.2 hh; cases this) ⟨heap_alloc_new w4 _⟩ (by have := HF.out.2.size; have := g4.size; omega) (gn_alloc (grown_trans HF.out.2 g4) _))
      unfold rz at HE
      clear hr g4 HYs HNo f3 f4
      go_wp2
      exact HE.out
end Go.Proofs.YtcbiloomnkbalaaGreatDoor
/- BookNone, walked. -/
namespace Go.Proofs.YtcbiloomnkbalaaGreatDoor
open Go.RowKit
attribute [local go_sem ↓] Go.wp_at_zero Go.wp_at_succ
attribute [local go_sem] Oper.semAt_some
set_option maxRecDepth 20000 in
set_option maxHeartbeats 8000000 in
theorem is_none {w : World} {ao : Option Addr} {X : Nat} (h : NoB w (.pointer ao)) (hX : RfZ w X) : Calls Tryz.prog 24 #[.pointer ao, .pointer (some ⟨X, 0, none⟩)] w fun e w' => e = .returned (.bool true) ∧ w.grownBy w' none := by
  have HA := hide (no_all h)
  have HD : Hid (∀ W, w.grownBy W none → Calls Tryz.prog 33 #[.pointer ao] W fun e w' => e = .returned (.tuple #[.int .i64 0, .bool false]) ∧ w' = W) := fun W g => no_due (h.then g)
  have HRd : Hid (∀ W, w.grownBy W none → Calls Tryz.prog 51 #[.pointer (some ⟨X, 0, none⟩)] W fun e w' => e = .returned (.tuple #[.int .i64 0, .bool false]) ∧ w' = W) := fun W g => rz_due (hX.then g)
  have HL : Hid (∀ W, w.grownBy W none → Calls Tryz.prog 28 #[.pointer ao] W fun e w' => e = .returned (.int .i64 0) ∧ w' = W) := fun W g => no_len (h.then g)
  have HN : Hid (∀ W, w.grownBy W none → Calls Tryz.prog 31 #[.pointer ao] W fun e w' => e = .returned (.int .u32 0) ∧ w' = W) := fun W g => no_next (h.then g)
  have HC : Hid (∀ W, w.grownBy W none → Calls Tryz.prog 32 #[.pointer ao] W fun e w' => e = .returned (.int .i64 0) ∧ w' = W) := fun W g => no_clock (h.then g)
  have HS : Hid (∀ W, w.grownBy W none → Calls Tryz.prog 34 #[.pointer ao] W fun e w' => e = .returned (.agg #[.int .i64 0, .int .i64 0, .int .i64 0]) ∧ W.grownBy w' none) := fun W g => no_shape (h.then g)
  have HM : Hid (∀ W v, BgA W v [] → Calls Tryz.prog 37 #[v, .slice none 0 0] W fun e w' => e = .returned (.bool true) ∧ W.grownBy w' none) := by
    intro W v hv
    have := sameBk_any hv (BgA.nil W) (by simp)
    rw [decide_eq_true rfl] at this
    exact this
  have HK : Hid (∀ W, w.grownBy W none → W.cell? ⟨X, 1, none⟩ = some (.int .i64 0) ∧ W.cell? ⟨X, 2, none⟩ = some (.int .i64 0) ∧ W.cell? ⟨X, 3, none⟩ = some (.int .i64 0) ∧ W.cell? ⟨X, 4, none⟩ = some (.slice none 0 0) ∧ W.cell? ⟨X, 5, none⟩ = some (.int .u32 0) ∧ W.cell? ⟨X, 6, none⟩ = some (.int .i64 0)) := fun W g =>
    ⟨(hX.then g).cell 1 _ rfl, (hX.then g).cell 2 _ rfl, (hX.then g).cell 3 _ rfl, (hX.then g).cell 4 _ rfl, (hX.then g).cell 5 _ rfl, (hX.then g).cell 6 _ rfl⟩
  clear h hX
  go_enter Tryz.func24, Tryz.ntmps24
  go_wp2_with fail
  refine HA.out.mono ?_
  rintro e w1 ⟨u, B, rfl, hv, hg1⟩
  have H1 := hide (And.intro hv hg1)
  clear hv hg1 HA
  go_wp2_with fail
  refine (told_any H1.out.1 (by simp)).mono ?_
  rintro e w2 ⟨v, rfl, hr, hg2⟩
  have g2 := grown_trans H1.out.2 hg2
  have hv2 := BgA.own hr
  clear H1 hr hg2
  go_wp2_with fail
  refine (HD.out _ g2).mono ?_
  rintro e w3 ⟨rfl, rfl⟩
  go_wp2_with fail
  refine (HRd.out _ g2).mono ?_
  rintro e w4 ⟨rfl, rfl⟩
  have hK0 := HK.out _ g2
  have g2d := grown_trans g2 (grown_drew _ none)
  have hv2d := hv2.then (grown_drew _ none)
  go_wp2
  go_region_held3 (fun W => W.cell? ⟨X, 1, none⟩ = some (.int .i64 0) ∧ W.cell? ⟨X, 2, none⟩ = some (.int .i64 0) ∧ W.cell? ⟨X, 3, none⟩ = some (.int .i64 0) ∧ W.cell? ⟨X, 4, none⟩ = some (.slice none 0 0) ∧ W.cell? ⟨X, 5, none⟩ = some (.int .u32 0) ∧ W.cell? ⟨X, 6, none⟩ = some (.int .i64 0)) (first | assumption | exact hK0)
    ((first
      | (go_at_call 37; refine (HM.out _ _ hv2d).mono ?_; rintro e w5 ⟨rfl, hg5⟩; have g5 := grown_trans g2d hg5; have hK5 := HK.out _ g5)
      | (go_at_call 28; refine (HL.out _ g5).mono ?_; rintro e w6 ⟨rfl, rfl⟩)
      | (go_at_call 31; refine (HN.out _ g5).mono ?_; rintro e w6 ⟨rfl, rfl⟩)
      | (go_at_call 32; refine (HC.out _ g5).mono ?_; rintro e w6 ⟨rfl, rfl⟩)
      | (go_at_call 34; refine (HS.out _ g5).mono ?_; rintro e w7 ⟨rfl, hg7⟩; have g7 := grown_trans g5 hg7; have hK7 := HK.out _ g7)))
  go_wp2
  go_ret
  exact ⟨rfl, g7⟩
def opV (d n : Int) (r : Rc) (id seat : Int) : Value := .agg #[.int .i64 d, .int .i64 n, .int .i64 r.k, .int .u32 r.i, .int .i64 r.s, .int .i64 r.u, .int .i64 r.c, .int .u32 id, .int .i64 seat]
theorem mod7 (x : Int) : x % 7 = 0 ∨ x % 7 = 1 ∨ x % 7 = 2 ∨ (x % 7 = 3 ∨ x % 7 = 4) ∨ x % 7 = 5 ∨ x % 7 = 6 := by omega
theorem pick7 (x v : Int) (w : World) (h : x % 7 = v) : Calls Tryz.prog 17 #[.int .i64 x, .int .i64 7] w fun e w' => e = .returned (.int .i64 v) ∧ w' = w := by
  have := pick_any x 7 7 w rfl (by decide) (by decide)
  rw [show ((7 : Nat) : Int) = 7 from rfl, h] at this
  exact this
set_option maxRecDepth 20000 in
set_option maxHeartbeats 16000000 in
theorem one_none {w : World} {ao : Option Addr} {X : Nat} (h : NoB w (.pointer ao)) (hX : RfZ w X) (d n id seat : Int) (r : Rc) : Calls Tryz.prog 18 #[.pointer ao, .pointer (some ⟨X, 0, none⟩), opV d n r id seat] w fun e w' => e = .returned (.bool true) ∧ w.grownBy w' none := by
  have HB := hide (heap_alloc_new w (.cells [.int .i64 d, .int .i64 n, .int .i64 r.k, .int .u32 r.i, .int .i64 r.s, .int .i64 r.u, .int .i64 r.c, .int .u32 id, .int .i64 seat].toArray 48))
  have g0 := grown_alloc w (.cells [.int .i64 d, .int .i64 n, .int .i64 r.k, .int .u32 r.i, .int .i64 r.s, .int .i64 r.u, .int .i64 r.c, .int .u32 id, .int .i64 seat].toArray 48)
  have HC : Hid (∀ W, (w.alloc (.cells [.int .i64 d, .int .i64 n, .int .i64 r.k, .int .u32 r.i, .int .i64 r.s, .int .i64 r.u, .int .i64 r.c, .int .u32 id, .int .i64 seat].toArray 48)).grownBy W none → ∀ j v, [Value.int .i64 d, .int .i64 n, .int .i64 r.k, .int .u32 r.i, .int .i64 r.s, .int .i64 r.u, .int .i64 r.c, .int .u32 id, .int .i64 seat][j]? = some v → W.cell? ⟨w.heap.size, j, none⟩ = some v) := fun W g j v hv => by
    rw [cell_row ((g.block _ (row_lt HB.out) (by simp)).trans HB.out)]; exact hv
  have HN := hide (And.intro h hX)
  have HP := hide (fun v W e => pick7 d v W e)
  clear h hX HB
  unfold opV
  obtain ⟨k, i, s, u, c⟩ := r
  simp only at *
  rcases mod7 d with hd | hd | hd | hd | hd | hd
  · have HP' := hide (fun W => HP.out 0 W hd)
    have HA1 : Hid (∀ W, w.grownBy W none → Calls Tryz.prog 36 #[.pointer ao, .agg #[.int .i64 k, .int .u32 i, .int .i64 s, .int .i64 u, .int .i64 c]] W fun e w' => e = .returned (.int .i64 1) ∧ W.grownBy w' none) := fun W g => no_apply (HN.out.1.then g) ⟨k, i, s, u, c⟩
    have HA2 : Hid (∀ W, w.grownBy W none → Calls Tryz.prog 44 #[.pointer (some ⟨X, 0, none⟩), .agg #[.int .i64 k, .int .u32 i, .int .i64 s, .int .i64 u, .int .i64 c]] W fun e w' => e = .returned (.int .i64 1) ∧ W.grownBy w' none) := fun W g => rz_apply (HN.out.2.then g) ⟨k, i, s, u, c⟩
    have HK : Hid (∀ W, (w.alloc (.cells [.int .i64 d, .int .i64 n, .int .i64 k, .int .u32 i, .int .i64 s, .int .i64 u, .int .i64 c, .int .u32 id, .int .i64 seat].toArray 48)).grownBy W none → W.cell? ⟨w.heap.size, 2, none⟩ = some (.int .i64 k) ∧ W.cell? ⟨w.heap.size, 3, none⟩ = some (.int .u32 i) ∧ W.cell? ⟨w.heap.size, 4, none⟩ = some (.int .i64 s) ∧ W.cell? ⟨w.heap.size, 5, none⟩ = some (.int .i64 u) ∧ W.cell? ⟨w.heap.size, 6, none⟩ = some (.int .i64 c)) := fun W g => ⟨HC.out W g 2 _ rfl, HC.out W g 3 _ rfl, HC.out W g 4 _ rfl, HC.out W g 5 _ rfl, HC.out W g 6 _ rfl⟩
    have hK0 := HK.out _ (grown_refl _ _)
    have x0 := HC.out _ (grown_refl _ _) 0 _ rfl
    clear HC HN HP hd
    go_enter Tryz.func18, Tryz.ntmps18
    go_wp2_with fail
    refine (HP'.out _).mono ?_
    rintro e w1 ⟨rfl, rfl⟩
    go_wp2
    generalize hw0 : w.alloc _ = w0 at *
    have HW0 := hide hw0
    clear hw0
    have g0d := grown_trans g0 (grown_drew _ none)
    go_region_held3 (fun W => W.cell? ⟨w.heap.size, 2, none⟩ = some (.int .i64 k) ∧ W.cell? ⟨w.heap.size, 3, none⟩ = some (.int .u32 i) ∧ W.cell? ⟨w.heap.size, 4, none⟩ = some (.int .i64 s) ∧ W.cell? ⟨w.heap.size, 5, none⟩ = some (.int .i64 u) ∧ W.cell? ⟨w.heap.size, 6, none⟩ = some (.int .i64 c)) (first | assumption | exact hK0)
      ((first
        | (go_at_call 36; refine (HA1.out _ g0d).mono ?_; rintro e w5 ⟨rfl, hg5⟩; have g5 := grown_trans g0d hg5; have hK5 := HK.out _ (grown_trans (grown_drew _ none) hg5))
        | (go_at_call 44; refine (HA2.out _ g5).mono ?_; rintro e w6 ⟨rfl, hg6⟩; have g6 := grown_trans g5 hg6; have hK6 := HK.out _ (grown_trans (grown_trans (grown_drew _ none) hg5) hg6))))
    go_wp2
    go_ret
    exact ⟨rfl, g6⟩
  · have HP' := hide (fun W => HP.out 1 W hd)
    have HA1 : Hid (∀ W, w.grownBy W none → Calls Tryz.prog 29 #[.pointer ao, .int .u32 id] W fun e w' => e = .returned (.tuple #[.agg #[.int .u32 0, .int .i64 0, .int .i64 0], .int .i64 1]) ∧ W.grownBy w' none) := fun W g => no_get (HN.out.1.then g) id
    have HA2 : Hid (∀ W, w.grownBy W none → Calls Tryz.prog 45 #[.pointer (some ⟨X, 0, none⟩), .int .u32 id] W fun e w' => e = .returned (.tuple #[.agg #[.int .u32 0, .int .i64 0, .int .i64 0], .int .i64 1]) ∧ W.grownBy w' none) := fun W g => rz_get (HN.out.2.then g) id
    have x0 := HC.out _ (grown_refl _ _) 0 _ rfl
    have x7 := HC.out _ (grown_refl _ _) 7 _ rfl
    clear HN HP hd
    go_enter Tryz.func18, Tryz.ntmps18
    go_wp2_with fail
    refine (HP'.out _).mono ?_
    rintro e w1 ⟨rfl, rfl⟩
    go_wp2_with fail
    refine (HA1.out _ g0).mono ?_
    rintro e w2 ⟨rfl, hg2⟩
    have g2 := grown_trans hg2 (grown_alloc w2 (.cells #[.int .u32 0, .int .i64 0, .int .i64 0] 78))
    have y7 := HC.out _ g2 7 _ rfl
    have G2 := grown_trans g0 g2
    have HB1 := hide (heap_alloc_new w2 (.cells [.int .u32 0, .int .i64 0, .int .i64 0].toArray 78))
    clear x0 x7
    go_wp2_with fail
    refine (HA2.out _ G2).mono ?_
    rintro e w3 ⟨rfl, hg3⟩
    have G3 := grown_trans (grown_trans G2 hg3) (grown_alloc w3 (.cells #[.int .u32 0, .int .i64 0, .int .i64 0] 78))
    have hb3 := ((grown_trans hg3 (grown_alloc w3 (.cells #[.int .u32 0, .int .i64 0, .int .i64 0] 78))).block _ (row_lt HB1.out) (by simp)).trans HB1.out
    obtain ⟨z0, z1, z2, -⟩ := box3 hb3
    clear hb3 y7
    go_wp2
    go_ret
    exact ⟨rfl, G3⟩
  · have HP' := hide (fun W => HP.out 2 W hd)
    have HA1 : Hid (∀ W, w.grownBy W none → Calls Tryz.prog 30 #[.pointer ao, .int .i64 seat] W fun e w' => e = .returned (.tuple #[.agg #[.int .u32 0, .int .i64 0, .int .i64 0], .int .i64 1]) ∧ W.grownBy w' none) := fun W g => no_at (HN.out.1.then g) seat
    have HA2 : Hid (∀ W, w.grownBy W none → Calls Tryz.prog 46 #[.pointer (some ⟨X, 0, none⟩), .int .i64 seat] W fun e w' => e = .returned (.tuple #[.agg #[.int .u32 0, .int .i64 0, .int .i64 0], .int .i64 1]) ∧ W.grownBy w' none) := fun W g => rz_at (HN.out.2.then g) seat
    have x0 := HC.out _ (grown_refl _ _) 0 _ rfl
    have x7 := HC.out _ (grown_refl _ _) 8 _ rfl
    clear HN HP hd
    go_enter Tryz.func18, Tryz.ntmps18
    go_wp2_with fail
    refine (HP'.out _).mono ?_
    rintro e w1 ⟨rfl, rfl⟩
    go_wp2_with fail
    refine (HA1.out _ g0).mono ?_
    rintro e w2 ⟨rfl, hg2⟩
    have g2 := grown_trans hg2 (grown_alloc w2 (.cells #[.int .u32 0, .int .i64 0, .int .i64 0] 78))
    have y7 := HC.out _ g2 8 _ rfl
    have G2 := grown_trans g0 g2
    have HB1 := hide (heap_alloc_new w2 (.cells [.int .u32 0, .int .i64 0, .int .i64 0].toArray 78))
    clear x0 x7
    go_wp2_with fail
    refine (HA2.out _ G2).mono ?_
    rintro e w3 ⟨rfl, hg3⟩
    have G3 := grown_trans (grown_trans G2 hg3) (grown_alloc w3 (.cells #[.int .u32 0, .int .i64 0, .int .i64 0] 78))
    have hb3 := ((grown_trans hg3 (grown_alloc w3 (.cells #[.int .u32 0, .int .i64 0, .int .i64 0] 78))).block _ (row_lt HB1.out) (by simp)).trans HB1.out
    obtain ⟨z0, z1, z2, -⟩ := box3 hb3
    clear hb3 y7
    go_wp2
    go_ret
    exact ⟨rfl, G3⟩
  · have HI : Hid (∀ W, w.grownBy W none → Calls Tryz.prog 24 #[.pointer ao, .pointer (some ⟨X, 0, none⟩)] W fun e w' => e = .returned (.bool true) ∧ W.grownBy w' none) := fun W g => is_none (HN.out.1.then g) (HN.out.2.then g)
    have x0 := HC.out _ (grown_refl _ _) 0 _ rfl
    rcases hd with hd | hd
    · have HP' := hide (fun W => HP.out 3 W hd)
      clear HN HP hd HC
      go_enter Tryz.func18, Tryz.ntmps18
      go_wp2_with fail
      refine (HP'.out _).mono ?_
      rintro e w1 ⟨rfl, rfl⟩
      go_wp2_with fail
      refine (HI.out _ g0).mono ?_
      rintro e w2 ⟨rfl, hg2⟩
      have G2 := grown_trans g0 hg2
      go_wp2
      go_ret
      exact ⟨rfl, G2⟩
    · have HP' := hide (fun W => HP.out 4 W hd)
      clear HN HP hd HC
      go_enter Tryz.func18, Tryz.ntmps18
      go_wp2_with fail
      refine (HP'.out _).mono ?_
      rintro e w1 ⟨rfl, rfl⟩
      go_wp2_with fail
      refine (HI.out _ g0).mono ?_
      rintro e w2 ⟨rfl, hg2⟩
      have G2 := grown_trans g0 hg2
      go_wp2
      go_ret
      exact ⟨rfl, G2⟩
  · have HP' := hide (fun W => HP.out 5 W hd)
    have HS : Hid (∀ W, w.grownBy W none → Calls Tryz.prog 20 #[.pointer ao, .pointer ao] W fun e w' => e = .returned (.bool false) ∧ w' = W) := fun W g => no_same1 (HN.out.1.then g) _
    have x0 := HC.out _ (grown_refl _ _) 0 _ rfl
    have r0 := (HN.out.2.then g0).cell 0 _ rfl
    have r0d := (HN.out.2.then (grown_trans g0 (grown_drew _ none))).cell 0 _ rfl
    have g0d := grown_trans g0 (grown_drew _ none)
    clear HN HP hd HC
    go_enter Tryz.func18, Tryz.ntmps18
    go_wp2_with fail
    refine (HP'.out _).mono ?_
    rintro e w1 ⟨rfl, rfl⟩
    go_wp2
    go_region_held3 (fun W => W.cell? ⟨X, 0, none⟩ = some (.bool false)) (first | assumption | exact r0)
      ((go_at_call 20; refine (HS.out _ g0d).mono ?_; rintro e w5 ⟨rfl, rfl⟩))
    go_wp2
    go_ret
    exact ⟨rfl, g0d⟩
  · have HP' := hide (fun W => HP.out 6 W hd)
    have HS : Hid (∀ W, w.grownBy W none → Calls Tryz.prog 22 #[.pointer ao] W fun e w' => e = .returned (.pointer none) ∧ w' = W) := fun W g => no_copy (HN.out.1.then g)
    have x0 := HC.out _ (grown_refl _ _) 0 _ rfl
    have r0 := (HN.out.2.then g0).cell 0 _ rfl
    have r0d := (HN.out.2.then (grown_trans g0 (grown_drew _ none))).cell 0 _ rfl
    have g0d := grown_trans g0 (grown_drew _ none)
    clear HN HP hd HC
    go_enter Tryz.func18, Tryz.ntmps18
    go_wp2_with fail
    refine (HP'.out _).mono ?_
    rintro e w1 ⟨rfl, rfl⟩
    go_wp2
    go_region_held3 (fun W => W.cell? ⟨X, 0, none⟩ = some (.bool false)) (first | assumption | exact r0)
      ((go_at_call 22; refine (HS.out _ g0d).mono ?_; rintro e w5 ⟨rfl, rfl⟩))
    go_wp2
    go_ret
    exact ⟨rfl, g0d⟩
end Go.Proofs.YtcbiloomnkbalaaGreatDoor
/- BookNone, walked. -/
namespace Go.Proofs.YtcbiloomnkbalaaGreatDoor
open Go.RowKit
attribute [local go_sem ↓] Go.wp_at_zero Go.wp_at_succ
attribute [local go_sem] Oper.semAt_some
end Go.Proofs.YtcbiloomnkbalaaGreatDoor
/- The document's book: Copy. -/
namespace Go.Proofs.YtcbiloomnkbalaaGreatDoor
open Go.RowKit Go.Shelf
attribute [local go_sem ↓] Go.wp_at_zero Go.wp_at_succ
attribute [local go_sem] Oper.semAt_some
theorem own_src {w : World} {lo : Nat} {v : Value} {X : List Bg} (h : w.ownsRow lo 78 3 v X.length (bgs X)) : v = .slice none 0 0 ∧ X = [] ∨ ∃ ad cap, v = .slice (some ad) X.length cap ∧ ∀ j u, (bgs X)[j]? = some u → w.cell? (Addr.add ad j) = some u := by
  by_cases hn : 0 < X.length
  · obtain ⟨g, cap, cur, rfl, -, hg, -, -, -, ht⟩ := Ix.own_row h hn
    refine Or.inr ⟨⟨g, 0, none⟩, cap, rfl, fun j u hj => ?_⟩
    rw [Addr.add_lit, Nat.zero_add]
    exact Ix.own_cell hg ht hj
  · have hX : X = [] := List.eq_nil_of_length_eq_zero (by omega)
    subst hX
    rcases h.2 with ⟨hv, -⟩ | ⟨g, cap, cur, hv, -⟩
    · exact Or.inl ⟨hv, rfl⟩
    · exact Or.inr ⟨_, cap, hv, fun j u hj => by simp [bgs] at hj⟩
set_option maxRecDepth 20000 in
set_option maxHeartbeats 8000000 in
theorem dcopy_any {w : World} {lo d : Nat} {v : Value} {S : Sb} (h : Db w lo d v S) (hX : S.L.length ≤ 65536) : Calls Tryz.prog 23 #[.pointer (some ⟨d, 0, none⟩)] w fun e w' => ∃ d' v', e = .returned (.pointer (some ⟨d', 0, none⟩)) ∧ Db w' w.heap.size d' v' S ∧ w.grownBy w' none := by
  have hsrc := own_src h.row
  obtain ⟨w1, hw1⟩ : ∃ w1, w1 = w.alloc (.cells (dbc S v).toArray 52) := ⟨_, rfl⟩
  have g1 : w.grownBy w1 none := by rw [hw1]; exact grown_alloc _ _
  have b1 : w1.heap[w.heap.size]? = some (.cells (dbc S v).toArray 52 (0, 0)) := by rw [hw1]; exact heap_alloc_new w _
  have s1 : w1.heap.size = w.heap.size + 1 := by rw [hw1]; simp
  obtain ⟨w2, hw2⟩ : ∃ w2, w2 = w1.alloc (.cells #[] 78) := ⟨_, rfl⟩
  have g2 : w1.grownBy w2 none := by rw [hw2]; exact grown_alloc _ _
  have b2 : w2.heap[w.heap.size + 1]? = some (.cells #[] 78 (0, 0)) := by rw [hw2, ← s1]; exact heap_alloc_new w1 _
  have hr2 : w2.ownsRow (w.heap.size + 1) 78 3 (.slice (some ⟨w.heap.size + 1, 0, none⟩) 0 0) 0 [] := ⟨rfl, Or.inr ⟨w.heap.size + 1, 0, #[], rfl, Nat.le_refl _, b2, Nat.le_refl _, by unfold maxLen; omega, rfl, rfl⟩⟩
  have c0 := h.cell (j := 0) rfl
  have c1 := h.cell (j := 1) rfl
  have c2 := h.cell (j := 2) rfl
  have c3 := h.cell (j := 3) rfl
  have c4 := h.cell (j := 4) rfl
  have c5 := h.cell (j := 5) rfl
  have c6 := h.cell (j := 6) rfl
  have d4 : w2.cell? ⟨d, 4, none⟩ = some v := (h.then (grown_trans g1 g2)).cell rfl
  have HE := hide hw1
  have HD := hide (And.intro g1 (And.intro g2 (And.intro b1 (And.intro hr2 s1))))
  obtain ⟨i0, hi0, hz0, hz1, hz2⟩ := info_parts Tryz.info78
  have HI0 := hide (And.intro hi0 (And.intro hz0 (And.intro hz1 hz2)))
  have hsz2 : Hid (w.heap.size + 1 ≤ w2.heap.size) := by rw [← s1]; exact g2.size
  have hsrc2 : v = .slice none 0 0 ∧ S.L = [] ∨ ∃ ad cap, v = .slice (some ad) S.L.length cap ∧ ∀ j u, (bgs S.L)[j]? = some u → w2.cell? (Addr.add ad j) = some u := by
    rcases hsrc with h1 | ⟨ad, cap, h1, h2⟩
    · exact Or.inl h1
    · exact Or.inr ⟨ad, cap, h1, fun j u hj => (grown_trans g1 g2).cell (h2 j u hj) (by simp)⟩
  have HX := hide hX
  have KEY : Hid (∀ (w3 : World) (v' : Value), w3.ownsRow (w.heap.size + 1) 78 3 v' S.L.length (bgs S.L) → w2.grownBy w3 (some (w.heap.size + 1)) → w3.heap[w.heap.size]? = some (.cells (dbc S v).toArray 52 (0, 0)) ∧ Db (w3.setCell ⟨w.heap.size, 4, none⟩ v') w.heap.size w.heap.size v' S ∧ w.grownBy (w3.setCell ⟨w.heap.size, 4, none⟩ v') none) := fun w3 v' ho hg => by
    have hb : w3.heap[w.heap.size]? = some (.cells (dbc S v).toArray 52 (0, 0)) := (hg.block _ (row_lt (by rw [g2.block _ (row_lt b1) (by simp)]; exact b1)) (by simp)).trans ((g2.block _ (row_lt b1) (by simp)).trans b1)
    have hs := row_setCell hb 4 v'
    have hgs := grown_setCell w3 w.heap.size 4 v'
    refine ⟨hb, ⟨hs, ?_, Nat.le_refl _⟩, ?_⟩
    · refine Ix.row_keep (own_base ho (Nat.le_succ _)) (fun k hk => ?_)
      have := (Ix.own_block ho hk)
      obtain ⟨h1, cur, h2⟩ := this
      exact hgs.block k (row_lt h2) (fun e => by simp at e; omega)
    · exact grown_then (grown_then (grown_trans g1 g2) hg (fun j e => by cases e; exact Or.inl (Nat.le_succ _))) hgs (fun j e => by cases e; exact Or.inl (Nat.le_refl _))
  subst hw2
  clear h hsrc hw1 g1 b1 s1 g2 b2 hr2 hX hi0 hz0 hz1 hz2
  unfold dbc at c0 c1 c2 c3 c4 c5 c6
  have hs1 : w1.heap.size = w.heap.size + 1 := HD.out.2.2.2.2
  rcases hsrc2 with ⟨rfl, hL⟩ | ⟨ad, cap, rfl, hn⟩
  · have hkey := KEY.out _ (.slice (some ⟨w.heap.size + 1, 0, none⟩) 0 0) (by rw [hL]; exact HD.out.2.2.2.1) (grown_refl _ _)
    rw [World.setCell_alloc_past _ _ _ _ (by rw [HD.out.2.2.2.2]; exact Nat.lt_succ_self _)] at hkey
    have HKY := hide hkey
    have z4 := free_row HKY.out.1 4
    have y4 : (w1.alloc (.cells #[] 78)).cell? ⟨w.heap.size, 4, none⟩ = some (.slice none 0 0) := by rw [cell_row HKY.out.1]; rfl
    clear hkey
    go_enter Tryz.func23, Tryz.ntmps23
    go_upto_region 2 with fail
    rw [show World.alloc w (.cells #[.bool true, .int .i64 (S.a : Int), .int .i64 (S.b : Int), .int .i64 (S.c : Int), .slice none 0 0, .int .u32 (S.n : Int), .int .i64 S.t] 52) = w1 from HE.out.symm]
    go_wp2
    go_ret
    exact ⟨_, _, rfl, HKY.out.2.1, HKY.out.2.2⟩
  · have HN := hide hn
    clear hn
    go_enter Tryz.func23, Tryz.ntmps23
    go_upto_region 2 with fail
    rw [show World.alloc w (.cells #[.bool true, .int .i64 (S.a : Int), .int .i64 (S.b : Int), .int .i64 (S.c : Int), .slice (some ad) S.L.length cap, .int .u32 (S.n : Int), .int .i64 S.t] 52) = w1 from HE.out.symm]
    go_wp2_with (at_builtin; refine wpList_append_own _ rfl (.tmp 7) (.tmp 11) 25 rfl (w.heap.size + 1) 78 i0 (.agg #[.int .u32 0, .int .i64 0, .int .i64 0]) 3 24 Tryz.underlying25 HI0.out.1 HI0.out.2.1 HI0.out.2.2.1 HI0.out.2.2.2 rfl (by decide) (.slice (some ⟨w.heap.size + 1, 0, none⟩) 0 0) 0 [] rfl HD.out.2.2.2.1 ad S.L.length cap (bgs S.L) rfl (bgs_length _) HN.out (bgs_one _) (by have := HX.out; unfold maxLen; omega) (by have := HX.out; omega) hsz2.out ?_)
    intro v' w3 ho hg hv
    clear hv
    have hkey := KEY.out w3 v' ho hg
    obtain ⟨so, c2, rfl, -⟩ := Ix.own_form ho
    have HKY := hide hkey
    have z4 := free_row HKY.out.1 4
    have y4 : w3.cell? ⟨w.heap.size, 4, none⟩ = some (.slice (some ad) S.L.length cap) := by rw [cell_row HKY.out.1]; rfl
    clear hkey ho hg
    go_wp2
    go_ret
    exact ⟨_, _, rfl, HKY.out.2.1, HKY.out.2.2⟩
end Go.Proofs.YtcbiloomnkbalaaGreatDoor
