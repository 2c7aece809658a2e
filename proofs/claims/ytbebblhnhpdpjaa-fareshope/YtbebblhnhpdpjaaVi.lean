/- Fares: the contracts of Limits, Bid. -/
import Derived.Test.YtbebblhnhpdpjaaVh
namespace Go.Proofs.Ytbebblhnhpdpjaa
open Go.RowKit
attribute [local go_sem ↓] Go.wp_at_zero Go.wp_at_succ
attribute [local go_sem] run_store_float

theorem cell_one_newI (w : World) (v : Value) (t : TypeId) : ∀ j u, [v][j]? = some u → (w.alloc (.cells #[v] t)).cell? ((⟨w.heap.size, 0, none⟩ : Addr).add j) = some u := by
  intro j u hu
  have h : (w.alloc (.cells #[v] t)).heap[w.heap.size]? = some (.cells [v].toArray t (0, 0)) := heap_alloc_new w _
  rw [Addr.add_lit, Nat.zero_add, cell_row h]; exact hu
/-- Rows of whole numbers. -/
def iv (xs : List Nat) : List Value := xs.map fun (x : Nat) => Value.int .i64 (x : Int)
theorem iv_length (xs : List Nat) : (iv xs).length = xs.length := by simp [iv]
theorem iv_append (xs ys : List Nat) : iv (xs ++ ys) = iv xs ++ iv ys := by simp [iv]
theorem iv_get (xs : List Nat) (j u : Nat) (h : xs[j]? = some u) : (iv xs)[j]? = some (.int .i64 (u : Int)) := by simp [iv, h]
def AtI (w : World) (ao : Option Addr) (xs : List Nat) : Prop := ∀ (j u : Nat), xs[j]? = some u → ∃ a, ao = some a ∧ w.cell? (a.add j) = some (.int .i64 (u : Int))
theorem AtI.grown {w w' : World} {ao : Option Addr} {xs : List Nat} (h : AtI w ao xs) (hg : w.grownBy w' none) : AtI w' ao xs := by
  intro j u hj
  obtain ⟨a, rfl, hc⟩ := h j u hj
  exact ⟨a, rfl, hg.cell hc (by simp)⟩
theorem ownI_at {w : World} {base n : Nat} {v : Value} {xs : List Nat} (h : w.ownsRow base 3 1 v n (iv xs)) :
    ∃ ao cap, v = .slice ao n cap ∧ xs.length = n ∧ n ≤ cap ∧ cap ≤ maxLen ∧ AtI w ao xs ∧ (ao = none → n = 0 ∧ cap = 0) ∧ (∀ a, ao = some a → a = ⟨a.block, 0, none⟩ ∧ base ≤ a.block ∧ a.block < w.heap.size) := by
  obtain ⟨hl, h⟩ := h
  simp [iv_length] at hl
  rcases h with ⟨rfl, rfl⟩ | ⟨g, cap, cur, rfl, hb, hg, hn, hm, hs, ht⟩
  · have : xs = [] := List.eq_nil_of_length_eq_zero hl
    subst this
    exact ⟨none, 0, rfl, rfl, Nat.le_refl _, Nat.zero_le _, fun j u hu => by simp at hu, fun _ => ⟨rfl, rfl⟩, fun a e => by cases e⟩
  · refine ⟨some ⟨g, 0, none⟩, cap, rfl, hl, hn, hm, ?_, (fun e => by cases e), fun a e => by cases e; exact ⟨rfl, hb, row_lt hg⟩⟩
    intro j u hu
    refine ⟨_, rfl, ?_⟩
    rw [Addr.add_lit, Nat.zero_add, cell_of_row w g j cur 3 (0, 0) hg]
    have h1 : (cur.toList.take (n * 1))[j]? = some (Value.int .i64 (u : Int)) := by rw [ht]; exact iv_get xs j u hu
    rw [List.getElem?_take] at h1
    split at h1
    · simpa using h1
    · cases h1
/-- A row of one's own, where its block stays. -/
theorem own_stays {w w' : World} {base n : Nat} {v : Value} {xs : List Value} {t : TypeId} (h : w.ownsRow base t 1 v n xs) (hk : ∀ k, base ≤ k → k < w.heap.size → w'.heap[k]? = w.heap[k]?) : w'.ownsRow base t 1 v n xs := by
  obtain ⟨hl, h⟩ := h
  refine ⟨hl, ?_⟩
  rcases h with h | ⟨g, cap, cur, rfl, hb, hgc, hr⟩
  · exact Or.inl h
  · exact Or.inr ⟨g, cap, cur, rfl, hb, (hk g hb (row_lt hgc)).trans hgc, hr⟩
theorem own_block {w : World} {base n k : Nat} {v : Value} {xs : List Value} {t : TypeId} (h : w.ownsRow base t 1 v n xs) (e : some k = v.ownBlock ∨ v.ownBlock = some k) : base ≤ k ∧ k < w.heap.size := by
  obtain ⟨hl, h⟩ := h
  rcases h with ⟨rfl, -⟩ | ⟨g, cap, cur, rfl, hb, hgc, hr⟩
  · simp [Value.ownBlock] at e
  · simp [Value.ownBlock] at e
    have : k = g := by rcases e with e | e <;> omega
    subst this
    exact ⟨hb, row_lt hgc⟩
theorem Own.kept {W0 w w' : World} {v b1 b2 n : Nat} {ws sp : List Nat} {row : Option Nat} {B : Nat} (h : Own W0 w v b1 b2 n ws sp) (hg : w.grownBy w' row) (hv : v < B) (h1 : b1 < B) (h2 : b2 < B) (hB : W0.heap.size ≤ B) (hr : ∀ k, row = some k → B ≤ k) : Own W0 w' v b1 b2 n ws sp := by
  have nb : ∀ b, b < B → some b ≠ row := fun b hb e => by have := hr b e.symm; omega
  exact ⟨⟨by rw [hg.block v (row_lt h.at_.pair) (nb v hv)]; exact h.at_.pair, h.at_.h1.kept hg (fun e => nb _ h1 e.symm), h.at_.h2.kept hg (fun e => nb _ h2 e.symm), h.at_.l1, h.at_.l2, h.at_.d1, h.at_.d2, h.at_.d3⟩,
    grown_then h.grown hg (fun k e => .inl (Nat.le_trans hB (hr k e))), h.lo0, h.lo1, h.lo2⟩

theorem own_low {w : World} {base base' n : Nat} {v : Value} {xs : List Value} {t : TypeId} (h : w.ownsRow base t 1 v n xs) (hb : base' ≤ base) : w.ownsRow base' t 1 v n xs := by
  obtain ⟨hl, h⟩ := h
  refine ⟨hl, ?_⟩
  rcases h with h | ⟨g, cap, cur, rfl, hb2, hr⟩
  · exact Or.inl h
  · exact Or.inr ⟨g, cap, cur, rfl, Nat.le_trans hb hb2, hr⟩
def lm (s : Nat) (l : List Fa) (j : Nat) : Nat := lim (ru (l.getD j (0, [])).1) (vs s (l.take j)) s
def lms (s : Nat) (l : List Fa) (j : Nat) : List Nat := (List.range j).map (lm s l)
theorem lms_succ (s : Nat) (l : List Fa) (j : Nat) : lms s l (j + 1) = lms s l j ++ [lm s l j] := by unfold lms; rw [List.range_succ, List.map_append]; rfl
theorem lms_length (s : Nat) (l : List Fa) (j : Nat) : (lms s l j).length = j := by simp [lms]
theorem Try.info3 : (Try.prog.info? 3).map (fun i => (i.zero, i.size, i.bytes)) = some (some (.int .i64 0), 1, 8) := by kernel_rfl

structure LmS (W0 w1 w : World) (v b1 b2 s j : Nat) (l : List Fa) (x : Value) : Prop where
  own : ∃ sp, Own W0 w v b1 b2 (s + 1) (vs s (l.take j)) sp
  row : w.ownsRow w1.heap.size 3 1 x j (iv (lms s l j))
  lv : v < w1.heap.size
  l1 : b1 < w1.heap.size
  l2 : b2 < w1.heap.size
  lo : W0.heap.size ≤ w1.heap.size
  hi : w1.heap.size ≤ w.heap.size

/-- What Limits tells. -/
def LmP (W0 : World) (l : List Fa) (seats : Int) (e : Ending) (w' : World) : Prop :=
  (cE l seats ≠ 0 ∧ e = .returned (.tuple #[.slice none 0 0, .int .i64 (cE l seats)]) ∨ cE l seats = 0 ∧ ∃ (s : Nat) (x : Value), seats = ((s : Nat) : Int) ∧ s ≤ 1024 ∧ e = .returned (.tuple #[x, .int .i64 0]) ∧ w'.ownsRow W0.heap.size 3 1 x l.length (iv (lms s l l.length))) ∧ W0.grownBy w' none

set_option maxRecDepth 20000 in
set_option maxHeartbeats 4000000 in
theorem limits_any (W0 : World) (ao : Option Addr) (cap n : Nat) (l : List Fa) (seats : Int) (w : World) (hn : n = l.length) (hb : FasAt W0 ao l) (hs : n ≤ 140737488355328) (hg : W0.grownBy w none) :
    Calls Try.prog 13 #[.slice ao n cap, .int .i64 seats] w (LmP W0 l seats) := by
  have HC := hide (wrong_any ao cap n l seats w hn (hb.grown hg) hs)
  have HB := hide hb
  have HN := hide hn
  have HG := hide hg
  have hcc := cE_cases l seats
  clear hn hb hg
  go_enter Try.func13, Try.ntmps13
  go_wp2_with fail
  refine HC.out.mono ?_
  rintro e w1 ⟨rfl, hg1⟩
  have HG1 := hide (grown_trans HG.out hg1)
  clear hg1 HC
  by_cases hz : cE l seats = 0
  · obtain ⟨hm, s, hse, hs2⟩ := cE_zero hz
    obtain ⟨h16, hgd⟩ := mayB_good hm
    have HZ := hide hz
    have HGd := hide hgd
    have HBd := hide (bd_vs s hgd)
    rw [hz]
    have HW := hide (noClass_any W0 s w1 hs2 HG1.out)
    subst hse
    have hn16 : n ≤ 16 := by have := HN.out; omega
    clear hgd hm hz hcc
    go_wp2_with fail
    refine HW.out.mono ?_
    rintro e w2 ⟨v, b1, b2, rfl, hO⟩
    obtain ⟨i0, hi, hz0, hz1, hz2⟩ := info_parts Try.info3
    obtain ⟨w3, hmk, hown, hg3⟩ := run_make_own (P := Try.prog) w2 w2.heap.size 30 3 i0 (.int .i64 0) 1 Try.underlying30 hi hz0 hz1 .i64 .i64 n (by rw [hz2]; omega) (by unfold maxLen; omega) (Nat.le_refl _)
    have HI := hide (And.intro hi (And.intro hz0 (And.intro hz1 hz2)))
    have HS : Hid (LmS W0 w2 w3 v b1 b2 s 0 l (.slice (some ⟨w2.heap.size, 0, none⟩) 0 n)) := by
      refine ⟨⟨_, hO.then hg3⟩, ?_, row_lt hO.at_.pair, hO.at_.h1.lt, hO.at_.h2.lt, hO.grown.size, hg3.size⟩
      simpa [lms, iv] using hown
    clear hO hown hg3 hi hz0 hz1 hz2 HW
    go_wp2
    clear hmk
    go_loopg [8, 24] n (fun k x i wr => ∃ j : Nat, k + j = n ∧ i = .int .i64 (j : Int) ∧ Hid (∃ c1 c2, LmS W0 w2 wr v c1 c2 s j l x))
    case atStart => exact ⟨0, by omega, rfl, hide ⟨_, _, HS.out⟩⟩
    case round =>
      obtain ⟨j, hkj, rfl, HL⟩ := hrel
      clear HS
      by_cases hgo : 0 < gk
      · have hlt : j < n := by omega
        obtain ⟨c1, c2, hL⟩ := HL.out
        obtain ⟨sp, hO⟩ := hL.own
        obtain ⟨c, hc⟩ : ∃ c, l[j]? = some c := ⟨_, List.getElem?_eq_getElem (by have := HN.out; omega)⟩
        obtain ⟨p, cs⟩ := c
        have gd := HGd.out j _ hc
        obtain ⟨b, off, bo, bc, rfl, hfa⟩ := HB.out j (p, cs) hc
        have hfa2 := hfa.grown hO.grown
        have k0 := hfa2.c0
        have k1 := hfa2.c1
        have hi0 : (j : Int) < (n : Int) := by omega
        dsimp only at k0 k1
        have hsz := hL.hi
        have hrow := hL.row
        obtain ⟨ao2, cap2, hx, r1, r2, r3, -, -, -⟩ := ownI_at hrow
        have HL2 := hide hL
        obtain ⟨x0, x1, x2⟩ := box_fa wr (.float .f64 p) (.slice bo cs.length bc)
        have hlm : lim (ru p) (vs s (l.take j)) s = lm s l j := by
          unfold lm
          rw [List.getD_eq_getElem?_getD, hc]; rfl
        have HLC := hide (limit_any v c1 c2 s (48 + 9 * j) _ sp p _ (hO.at_.kept x2) hs2 gd.pr (by omega) (HBd.out j (by have := HN.out; omega)))
        rw [hlm] at HLC
        have HO := hide (And.intro (hO.then x2) (And.intro hfa.sin gd))
        have HX := hide (And.intro x0 x1)
        have HR := hide (own_stays (w' := wr.alloc (.cells #[.float .f64 p, .slice bo cs.length bc] 48)) hrow (fun k _ hk => x2.block k hk (by simp)))
        have hbx : wr.heap.size < (wr.alloc (.cells #[.float .f64 p, .slice bo cs.length bc] 48)).heap.size := by
          have : (wr.alloc (.cells #[.float .f64 p, .slice bo cs.length bc] 48)).heap.size = wr.heap.size + 1 := Array.size_push ..
          omega
        have HT := hide ((congrArg (vs s) (take_snoc hc)).trans (vs_snoc _ _ _))
        obtain rfl := hx
        clear hfa hfa2 hc x2 hO hL gd hlm hrow HL r1 x0 x1
        go_wp2_with fail
        refine HLC.out.mono ?_
        rintro e w5 ⟨rfl, hg5⟩
        have hrow5 := own_stays (w' := w5) HR.out (fun k _ hk => hg5.block k hk (by simp))
        have HG5 := hide hg5
        have HR5 := hide hrow5
        have HX5 := hide (And.intro (hg5.cell HX.out.1 (by simp)) (hg5.cell HX.out.2 (by simp)))
        have hs5 : wr.heap.size < w5.heap.size := Nat.lt_of_lt_of_le hbx hg5.size
        clear hg5 hrow5 HLC HX HR
        go_wp2_with (at_builtin; refine wpList_append_own _ rfl (.tmp 28) (.tmp 33) 30 rfl w2.heap.size 3 i0 (.int .i64 0) 1 8 Try.underlying30 HI.out.1 HI.out.2.1 HI.out.2.2.1 HI.out.2.2.2 rfl (by decide) _ _ _ rfl (HR5.out.alloc _) ⟨w5.heap.size, 0, none⟩ 1 1 [.int .i64 (lm s l j : Nat)] rfl rfl (cell_one_newI _ _ _) (by simp [Value.oneCell']) (by unfold maxLen; omega) (by omega) (by simp; omega) ?_)
        intro v' w6 hown' hgrow _
        have hob := fun (k : Nat) (e : (Value.slice ao2 j cap2).ownBlock = some k) => own_block HL2.out.row (Or.inr e)
        have ga := grown_alloc w5 (.cells #[Value.int .i64 (lm s l j : Nat)] 3)
        have hO6 := ((HO.out.1.then HG5.out).then ga).kept hgrow HL2.out.lv HL2.out.l1 HL2.out.l2 HL2.out.lo (fun k e => (hob k e).1)
        have x0 := hgrow.cell (ga.cell HX5.out.1 (by simp)) (fun e => by have := hob _ e.symm; simp at this; try omega)
        have x1 := hgrow.cell (ga.cell HX5.out.2 (by simp)) (fun e => by have := hob _ e.symm; simp at this; try omega)
        have HA := hide (add_any W0 v c1 c2 (s + 1) (48 + 9 * j) _ sp p bo bc cs w6 hO6 (by omega) HO.out.2.1 HO.out.2.2 (by omega) (HBd.out j (by have := HN.out; omega)))
        have HR6 : Hid (w6.ownsRow w2.heap.size 3 1 v' (j + 1) (iv (lms s l (j + 1)))) := hide (by rw [lms_succ, iv_append]; exact hown')
        have hs6 : w2.heap.size ≤ w6.heap.size := by have := hgrow.size; have := ga.size; omega
        clear hown' hgrow ga hO6 hob HO HR5 HX5 HG5
        go_wp2_with fail
        refine HA.out.mono ?_
        rintro e w7 ⟨rfl, hO7, hoth⟩
        have HQ : Hid (LmS W0 w2 w7 v c2 c1 s (j + 1) l v') := hide ⟨⟨_, by rw [HT.out]; exact hO7⟩, own_stays HR6.out (fun k hk hlt => hoth.at_ k hlt (by have := HL2.out.lv; omega) (by have := HL2.out.l1; omega) (by have := HL2.out.l2; omega)), HL2.out.lv, HL2.out.l2, HL2.out.l1, HL2.out.lo, Nat.le_trans hs6 hoth.size⟩
        clear hO7 hoth HA HR6 HT HL2 x0 x1
        go_wp2
        go_roundg (gk - 1)
        case measure => omega
        case rel => exact ⟨j + 1, by omega, by go_num, hide ⟨_, _, HQ.out⟩⟩
      · have hj : j = n := by omega
        subst hj
        obtain ⟨c1, c2, hL⟩ := HL.out
        obtain ⟨sp, hO⟩ := hL.own
        have hf1 := own_low hL.row hL.lo
        have HF := hide (And.intro hf1 hO.grown)
        clear hf1 hO hL HL
        go_wp2
        go_ret2
        exact ⟨.inr ⟨HZ.out, s, _, rfl, hs2, rfl, by rw [← HN.out]; exact HF.out.1⟩, HF.out.2⟩
  · have hne : (cE l seats == 0) = false := by simpa using hz
    have HZ := hide hz
    clear hz
    generalize hce : cE l seats = ce at *
    go_wp2
    go_ret2
    exact ⟨.inl ⟨by rw [hce]; exact HZ.out, by rw [hce]; rfl⟩, HG1.out⟩

/-- One float less another. -/
def sb (a b : Nat) : Nat := (floatBits .sub .f64 a b).getD 0
theorem sb_eq {a b : Nat} (ha : a < 2047 * 2 ^ 52) (hb : b < 2047 * 2 ^ 52) : floatBits .sub .f64 a b = some (sb a b) := by
  have h : floatBits .sub .f64 a b = some (put (if sv a - sv b = 0 then sg a && !sg b else decide (sv a - sv b < 0)) (sv a - sv b).natAbs 0) := sub_fin (fin_of ha) (fin_of hb)
  unfold sb
  rw [h]; rfl
theorem vs_fin {l : List Fa} (s : Nat) (h : mayB l = true) (x : Nat) : (vs s l).getD x 0 < 2047 * 2 ^ 52 := by
  obtain ⟨h16, hgd⟩ := mayB_good h
  have := bd_vs s hgd l.length (Nat.le_refl _)
  rw [List.take_length] at this
  exact this.fin (by omega) x
def bE (l : List Fa) (seats : Int) : Nat := if cE l seats = 0 ∧ 0 < seats then sb ((vs seats.toNat l).getD seats.toNat 0) ((vs seats.toNat l).getD (seats.toNat - 1) 0) else 0
set_option maxHeartbeats 1000000 in
theorem bid_any (W0 : World) (ao : Option Addr) (cap n : Nat) (l : List Fa) (seats : Int) (w : World) (hn : n = l.length) (hb : FasAt W0 ao l) (hs : n ≤ 140737488355328) (hg : W0.grownBy w none) :
    Calls Try.prog 14 #[.slice ao n cap, .int .i64 seats] w fun e w' => e = .returned (.tuple #[.float .f64 (bE l seats), .int .i64 (cE l seats)]) ∧ W0.grownBy w' none := by
  have HC := hide (wrong_any ao cap n l seats w hn (hb.grown hg) hs)
  have HB := hide hb
  have HN := hide hn
  have HG := hide hg
  have hcc := cE_cases l seats
  clear hn hb hg
  go_enter Try.func14, Try.ntmps14
  go_wp2_with fail
  refine HC.out.mono ?_
  rintro e w1 ⟨rfl, hg1⟩
  have HG1 := hide (grown_trans HG.out hg1)
  clear hg1 HC
  by_cases hz : cE l seats = 0
  · obtain ⟨hm, s, hse, hs2⟩ := cE_zero hz
    obtain ⟨h16, hgd⟩ := mayB_good hm
    have HZ := hide hz
    rw [hz]
    have HW := hide (worthOf_any W0 ao cap n s l w1 HN.out (by have := HN.out; omega) HB.out hgd hs2 HG1.out)
    subst hse
    have HM := hide hm
    clear hgd hm hz hcc
    by_cases h0 : s = 0
    · subst h0
      have HE : Hid (bE l ((0 : Nat) : Int) = 0) := hide (by unfold bE; rw [if_neg (by simp)])
      go_wp2
      go_ret2
      exact ⟨by rw [HE.out, HZ.out]; rfl, HG1.out⟩
    · have HE : Hid (bE l (s : Int) = sb ((vs s l).getD s 0) ((vs s l).getD (s - 1) 0)) := hide (by unfold bE; rw [if_pos ⟨HZ.out, by omega⟩]; rfl)
      have hs0 : ((s : Int) == 0) = false := by simp; omega
      have hs1 : IntKind.i64.wrap ((s : Int) - 1) = ((s - 1 : Nat) : Int) := by rw [IntKind.wrap_i64]; omega
      go_wp2_with fail
      refine HW.out.mono ?_
      rintro e w2 ⟨b, rfl, h1, h2, h3⟩
      have HF := hide h3
      have c1 := h1.cell (j := s) (by rw [vs_length]; omega)
      have c2 := h1.cell (j := s - 1) (by rw [vs_length]; omega)
      have hsb := run_sub (sb_eq (vs_fin s HM.out s) (vs_fin s HM.out (s - 1)))
      have hi1 : s - 1 < s + 1 := by omega
      clear h1 h2 h3 HW
      generalize sb ((vs s l).getD s 0) ((vs s l).getD (s - 1) 0) = r at *
      generalize (vs s l).getD s 0 = x at *
      generalize (vs s l).getD (s - 1) 0 = y at *
      generalize s - 1 = s1 at *
      go_wp2
      go_quiet (fail)
      go_wp2
      go_ret2
      exact ⟨by rw [HE.out, HZ.out]; rfl, grown_trans HF.out (grown_drewN _ _)⟩
  · have hne : (cE l seats == 0) = false := by simpa using hz
    have HE : Hid (bE l seats = 0) := hide (by unfold bE; rw [if_neg (fun h => hz h.1)])
    clear hz
    generalize hce : cE l seats = ce at *
    go_wp2
    go_ret2
    exact ⟨by rw [HE.out, hce]; rfl, HG1.out⟩
end Go.Proofs.Ytbebblhnhpdpjaa
