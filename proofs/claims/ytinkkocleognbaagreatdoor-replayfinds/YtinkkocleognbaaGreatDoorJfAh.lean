/- Texts joined: Fi. -/
import Derived.Test.YtinkkocleognbaaGreatDoorJfAg
namespace Go.Proofs.YtinkkocleognbaaGreatDoor
/- ReplayFinds, walked. -/
open Go.RowKit Go.Shelf
attribute [local go_sem ↓] Go.wp_at_zero Go.wp_at_succ
attribute [local go_sem] Oper.semAt_some
theorem fi_a {wb W wx : World} {d : Nat} {S : Sb} {p : Bp} (G : wb.grownBy W none) (gx : W.grownBy wx none) (hL : Lb W wx d S p) : (wx.alloc (.cells #[.pointer (some ⟨d, 0, none⟩)] 27)).heap[wx.heap.size]? = some (.cells [Value.pointer (some ⟨d, 0, none⟩)].toArray 27 (0, 0)) ∧ wb.grownBy (wx.alloc (.cells #[.pointer (some ⟨d, 0, none⟩)] 27)) none ∧ Lb wb (wx.alloc (.cells #[.pointer (some ⟨d, 0, none⟩)] 27)) d S p ∧ ¬ p.own wx.heap.size :=
  ⟨heap_alloc_new wx _, gn_alloc (grown_trans G gx) _, (hL.then (grown_alloc wx _)).base G.size, fun e => Nat.lt_irrefl _ (hL.bk.lt _ e)⟩
theorem fi_b {wb W wx : World} {d bx : Nat} {S : Sb} {p : Bp} (G : wb.grownBy W none) (gx : W.grownBy wx none) (hL : Lb W wx d S p) (hb : bx < W.heap.size) (hg : wb.heap.size ≤ bx) (hx : wx.heap[bx]? = some (.cells [Value.pointer none].toArray 27 (0, 0))) : (wx.setCell ⟨bx, 0, none⟩ (.pointer (some ⟨d, 0, none⟩))).heap[bx]? = some (.cells [Value.pointer (some ⟨d, 0, none⟩)].toArray 27 (0, 0)) ∧ wb.grownBy (wx.setCell ⟨bx, 0, none⟩ (.pointer (some ⟨d, 0, none⟩))) none ∧ Lb wb (wx.setCell ⟨bx, 0, none⟩ (.pointer (some ⟨d, 0, none⟩))) d S p ∧ ¬ p.own bx :=
  ⟨row_setCell hx 0 _, gn_set (grown_trans G gx) hg, (hL.far (kept_setCell wx bx 0 _) (fun i e => by rw [e]; exact hb)).base G.size, fun e => by have := hL.own _ e; omega⟩
/-- The first of the numbers below n, not below fr, of which g is so; -1. -/
def fsV (g : Nat → Bool) (fr : Int) (n : Nat) : Int := ((List.range n).find? fun (k : Nat) => decide (fr ≤ (k : Int)) && g k).elim (-1) fun k => (k : Int)
theorem fsV_zero (g : Nat → Bool) (fr : Int) : fsV g fr 0 = -1 := rfl
theorem fsV_succ (g : Nat → Bool) (fr : Int) (n : Nat) : fsV g fr (n + 1) = if fsV g fr n < 0 ∧ fr ≤ (n : Int) ∧ g n = true then (n : Int) else fsV g fr n := by
  unfold fsV
  rw [List.range_succ, List.find?_append]
  generalize (List.range n).find? (fun (k : Nat) => decide (fr ≤ (k : Int)) && g k) = o
  cases o with
  | some k =>
    rw [if_neg (fun e => by have := e.1; simp at this; omega)]
    rfl
  | none =>
    simp only [Option.none_or, List.find?_cons, List.find?_nil]
    by_cases h1 : fr ≤ (n : Int)
    · cases hg : g n <;> simp [h1]
    · simp [h1]
theorem fsV_fiR (g : Nat → Bool) (fr : Int) (n : Nat) : fsV g fr (n + 1) = (fiR g fr n).elim (-1) fun k => (k : Int) := rfl
/-- Inside the range, between two states. -/
structure FsI (wb W : World) (B : Nat) (g : Nat → Bool) (fr : Int) (pre : List (Nat × Bp)) (O : Nat → Prop) : Prop where
  kp : Kept wb W (fun i => i = B)
  no : ∀ i, O i → wb.heap.size ≤ i
  bx : W.heap[B]? = some (.cells [Value.int .i64 (fsV g fr pre.length)].toArray 3 (0, 0))
theorem FsI.goes {wb : World} {B : Nat} {g : Nat → Bool} {fr : Int} (hB : B < wb.heap.size) : Goes (fun pre O W => FsI wb W B g fr pre O) := fun _ O O' A A' h k hOO =>
  ⟨(h.kp.trans (k.mono (fun i _ e => show i = B ∨ wb.heap.size ≤ i from .inr (h.no i e))) (fun i hi e => by rcases e with e | e; exact e; omega)), fun i hi => by
    rcases hOO i hi with e | e
    · exact h.no i e
    · exact Nat.le_trans h.kp.size e, k.at h.bx (fun e => by have := h.no _ e; omega)⟩
set_option maxRecDepth 100000 in
set_option maxHeartbeats 40000000 in
theorem finds_any {w : World} {a1 a2 : Option Addr} {c1 c2 : Nat} {l1 l2 : List Cg} (x fr : Int) (h1 : l1.length ≤ c1) (h2 : l2.length ≤ c2) (hC1 : CgsAt w a1 l1) (hC2 : CgsAt w a2 l2) (hT : Rk.Tab w) : Calls Tryz.prog 8 #[.int .i64 x, .slice a1 l1.length c1, .slice a2 l2.length c2, .int .i64 fr] w fun e w' => e = .returned (.bool true) ∧ w.grownBy w' none := by
  have hos := s_ok x
  have HSp : Hid (∀ W, Calls Tryz.prog 20 #[.int .i64 x] W fun e w' => e = .returned (.agg #[.int .i64 (sa x : Int), .int .i64 (sb x : Int), .int .i64 (sc x : Int)]) ∧ W.grownBy w' none) := fun W => mshape_any x W
  have HFw1 : Hid (∀ W, Calls Tryz.prog 22 #[.slice a1 l1.length c1] W fun e w' => e = .returned (.slice a1 (fw l1).length c1) ∧ w' = W) := fun W => few_any l1 h1 W
  have HFw2 : Hid (∀ W, Calls Tryz.prog 22 #[.slice a2 l2.length c2] W fun e w' => e = .returned (.slice a2 (fw l2).length c2) ∧ w' = W) := fun W => few_any l2 h2 W
  have HHs1 : Hid (∀ W, w.grownBy W none → Calls Tryz.prog 21 #[.agg #[.int .i64 (sa x : Int), .int .i64 (sb x : Int), .int .i64 (sc x : Int)], .slice a1 (fw l1).length c1, .bool false] W fun e w' => ∃ so c2, e = .returned (.slice so (hs x l1 false).length c2) ∧ Rw w' W.heap.size so c2 (hs x l1 false) ∧ W.grownBy w' none) := fun W g => hs_any x l1 false hC1 g
  have HHs2' : Hid (∀ W, w.grownBy W none → Calls Tryz.prog 21 #[.agg #[.int .i64 (sa x : Int), .int .i64 (sb x : Int), .int .i64 (sc x : Int)], .slice a2 (fw l2).length c2, .bool false] W fun e w' => ∃ so c2, e = .returned (.slice so (hs x l2 false).length c2) ∧ Rw w' W.heap.size so c2 (hs x l2 false) ∧ W.grownBy w' none) := fun W g => hs_any x l2 false hC2 g
  have hRan := hist_ran (nS (sa x) (sb x) (sc x)) (fw l2)
  obtain ⟨eq1, eq2⟩ := (ran_is (nS (sa x) (sb x) (sc x)) (hs x l2 false)).uniq hRan
  have HOf2' : Hid (∀ W so c3 B0, w.grownBy W none → Rw W B0 so c3 (hs x l2 false) → Calls Tryz.prog 10 #[.agg #[.int .i64 (sa x : Int), .int .i64 (sb x : Int), .int .i64 (sc x : Int)], .slice so (hs x l2 false).length c3] W fun e w' => ∃ d p, e = .returned (.tuple #[.pointer (some ⟨d, 0, none⟩), .int .i64 ((hs x l2 false).length : Int), .int .i64 0]) ∧ Lb W w' d (fo (nS (sa x) (sb x) (sc x)) (hs x l2 false) (hs x l2 false).length) p ∧ W.grownBy w' none) := by
    intro W so c3 B0 g hR
    have := of_lb x (so := so) (c2 := c3) (hs_len x l2 false) hR.at (fun r hr => (hs_mem x l2 false r hr).2) (hT.new g)
    rw [eq1, eq2] at this
    exact this
  obtain ⟨S2, hS2⟩ : ∃ S2, S2 = fo (nS (sa x) (sb x) (sc x)) (hs x l2 false) (hs x l2 false).length := ⟨_, rfl⟩
  have HS2 : Hid (S2.Ok ∧ S2.a = sa x ∧ S2.b = sb x) := by rw [hS2]; exact ⟨fo_ok (nS_ok hos) _ _, (fo_abc _ _ _).1, (fo_abc _ _ _).2.1⟩
  rw [← hS2] at HOf2'
  obtain ⟨g, hg⟩ : ∃ g : Nat → Bool, g = fun k => sameS (fo (nS (sa x) (sb x) (sc x)) (hs x l1 false) k) S2 := ⟨_, rfl⟩
  obtain ⟨n, hn⟩ : ∃ n, n = rn (nS (sa x) (sb x) (sc x)) (hs x l1 false) := ⟨_, rfl⟩
  have HSm : Hid (∀ W k p d q, k ≤ n → BkAt W p (fo (nS (sa x) (sb x) (sc x)) (hs x l1 false) k) 4096 → BkAt W q S2 10000 → q.b = d → Calls Tryz.prog 34 #[.pointer (some ⟨p.b, 0, none⟩), .pointer (some ⟨d, 0, none⟩)] W fun e w' => e = .returned (.bool (g k)) ∧ W.grownBy w' none) := by
    intro W k p d q _ hp hq hd
    have := same_any hp hq (fo_ok (nS_ok hos) _ k).wk HS2.out.1.wk (by rw [(fo_abc _ _ k).1]; exact HS2.out.2.1) (by rw [(fo_abc _ _ k).2.1]; exact HS2.out.2.2)
    rw [hd] at this
    rw [hg]
    exact this
  have HFd : Hid (∀ W B0 so c3 d q, w.grownBy W none → Rw W B0 so c3 (hs x l1 false) → BkAt W q S2 10000 → q.b = d → Calls Tryz.prog 11 #[.agg #[.int .i64 (sa x : Int), .int .i64 (sb x : Int), .int .i64 (sc x : Int)], .slice so (hs x l1 false).length c3, .int .i64 fr, .pointer (some ⟨d, 0, none⟩)] W fun e w' => e = .returned (fiV (fiR g fr n)) ∧ W.grownBy w' none) := by
    intro W B0 so c3 d q gW hR hq hd
    have := rfind_any (cap := c3) hos hR.at (fun r hr => (hs_mem x l1 false r hr).2) (by have := hs_len x l1 false; omega) (hT.new gW) fr (some ⟨d, 0, none⟩) g (fun W' k p g' hk hp => HSm.out W' k p d q (by rw [hn]; exact hk) hp (hq.then g') hd)
    rw [← hn] at this
    exact this
  have HStt : Hid (∀ W B0 so c3, w.grownBy W none → Rw W B0 so c3 (hs x l1 false) → Calls Tryz.prog 12 #[.agg #[.int .i64 (sa x : Int), .int .i64 (sb x : Int), .int .i64 (sc x : Int)], .slice so (hs x l1 false).length c3] W fun e w' => ∃ v, e = .returned v ∧ StF w' W.heap.size v (sa x) (sb x) (sc x) (hs x l1 false) ∧ W.grownBy w' none) := fun W B0 so c3 gW hR => states_any hR.at (fun r hr => (hs_mem x l1 false r hr).2) (by have := hs_len x l1 false; omega) (hT.new gW)
  have HAw : Hid (∀ W, w.grownBy W none → Calls Tryz.prog 13 #[] W fun e w' => e = .returned (.bool true) ∧ W.grownBy w' none) := fun W g => awake_any W (hT.new g)
  have HSq : Hid (∀ (Bs Bl : Nat) (so : Option Addr) (cap : Nat) (W : World), StI W Bs Bl (sa x) (sb x) (sc x) so cap (hs x l1 false) → SeqW Fence.wide 5 Tryz.prog 41 #[.pointer (some ⟨Bs, 0, none⟩), .pointer (some ⟨Bl, 0, none⟩)] encS (stR Bs Bl so (hs x l1 false).length) (fun x => x.2.own) (StV (nS (sa x) (sb x) (sc x)) (hs x l1 false)) (fun xs => xs.length = n + 1) W) := fun Bs Bl so cap W hI => by rw [hn]; exact st_seq 5 (by decide) Bs Bl (sa x) (sb x) (sc x) hos so cap (hs x l1 false) W hI
  have HSv : Hid (∀ pre (y : Nat × Bp) W, StV (nS (sa x) (sb x) (sc x)) (hs x l1 false) pre y W → y.1 ≤ n) := fun pre y W h => by rw [hn]; exact h.2.1
  clear hC1 hC2 hRan eq1 eq2 hg hn hS2 hos hT h1 h2 HS2
  obtain ⟨A, hA⟩ : ∃ A : Int, A = (sa x : Int) := ⟨_, rfl⟩
  obtain ⟨Bb, hBb⟩ : ∃ A : Int, A = (sb x : Int) := ⟨_, rfl⟩
  obtain ⟨Cc, hCc⟩ : ∃ A : Int, A = (sc x : Int) := ⟨_, rfl⟩
  rw [← hA, ← hBb, ← hCc] at HSp HHs1 HHs2' HOf2' HFd HStt HSq
  clear hA hBb hCc
  refine (callsIn_wide (n := 6)).1 (callsIn_of_wp_marks Tryz.func8 rfl trivial ?_ rfl)
  simp only [Tryz.ntmps8, List.size_toArray, List.length_cons, List.length_nil, Nat.reduceAdd, Nat.reduceSub, Array.replicate_succ, Array.replicate_zero, List.push_toArray, List.append_toArray, List.nil_append, List.cons_append]
  refine wpIn_wide.2 ?_
  go_wp2_with fail
  refine (HSp.out _).mono ?_
  rintro e w1 ⟨rfl, g1⟩
  obtain ⟨w2, hw2⟩ : ∃ w2, w1.alloc (.cells #[.int .i64 A, .int .i64 Bb, .int .i64 Cc] 23) = w2 := ⟨_, rfl⟩
  have G1 : Hid (w.grownBy w1 none) := grown_trans (grown_alloc w _) g1
  have b7 : w1.heap[w.heap.size]? = some (.cells [Value.int .i64 fr].toArray 3 (0, 0)) := (g1.block _ (row_lt (heap_alloc_new w _)) (by simp)).trans (heap_alloc_new w _)
  obtain ⟨B9, hB9⟩ : ∃ B9, w1.heap.size = B9 := ⟨_, rfl⟩
  have b9 : w2.heap[B9]? = some (.cells #[.int .i64 A, .int .i64 Bb, .int .i64 Cc] 23) := by rw [← hw2, ← hB9]; exact heap_alloc_new w1 _
  have HSh : Hid (∀ W, w2.grownBy W none → (W.cell? ⟨B9, 0, none⟩ = some (.int .i64 A) ∧ W.cell? ⟨B9, 1, none⟩ = some (.int .i64 Bb) ∧ W.cell? ⟨B9, 2, none⟩ = some (.int .i64 Cc)) ∧ W.cell? ⟨w.heap.size, 0, none⟩ = some (.int .i64 fr)) := by
    intro W gW
    have c := Ge.cell3 ((gW.block _ (row_lt b9) (by simp)).trans b9)
    have b7' : w2.heap[w.heap.size]? = some (.cells [Value.int .i64 fr].toArray 3 (0, 0)) := by rw [← hw2]; exact keep1 _ _ b7
    have c7 := cell_row ((gW.block _ (row_lt b7') (by simp)).trans b7') 0
    have s0 := c 0
    have s1 := c 1
    have s2 := c 2
    simp only [Ge.getElem?_v0, Ge.getElem?_v1, Ge.getElem?_v2] at s0 s1 s2
    exact ⟨⟨s0, s1, s2⟩, by simpa using c7⟩
  have G2 : Hid (w.grownBy w2 none) := by rw [← hw2]; exact gn_alloc G1.out _
  have HW2 := hide hw2
  have HB9 := hide hB9
  clear hw2 b7 b9 g1 G1 hB9
  go_wp2
  rw [HW2.out, HB9.out]
  clear HW2 HB9
  have hK0 := (HSh.out w2.drew (grown_drew w2 none)).1
  go_region_held3 (fun W => W.cell? ⟨B9, 0, none⟩ = some (.int .i64 A) ∧ W.cell? ⟨B9, 1, none⟩ = some (.int .i64 Bb) ∧ W.cell? ⟨B9, 2, none⟩ = some (.int .i64 Cc)) (first | with_reducible exact hK | with_reducible exact hK0 | exact hK0)
    ((first
      | (go_at_call 22; refine (HFw1.out _).mono ?_; rintro e wy ⟨rfl, hwy⟩; obtain rfl := hwy.symm)
      | (go_at_call 21; refine (HHs1.out _ (gn_drew G2.out)).mono ?_; rintro e wb ⟨so1, cp1, rfl, hR1, gx⟩; have Gb := hide (grown_trans (grown_drew w2 none) gx); have hK := (HSh.out wb Gb.out).1)))
  have HR1 := hide hR1
  have GW := hide (grown_trans G2.out Gb.out)
  clear hR1 gx hK hK0 HFw1 HHs1
  go_wp2
  have HKf : Hid (∀ W, wb.grownBy W none → W.cell? ⟨B9, 0, none⟩ = some (.int .i64 A) ∧ W.cell? ⟨B9, 1, none⟩ = some (.int .i64 Bb) ∧ W.cell? ⟨B9, 2, none⟩ = some (.int .i64 Cc)) := fun W gW => (HSh.out W (grown_trans Gb.out gW)).1
  have HHs2 : Hid (∀ W, wb.grownBy W none → Calls Tryz.prog 21 #[.agg #[.int .i64 A, .int .i64 Bb, .int .i64 Cc], .slice a2 (fw l2).length c2, .bool false] W fun e w' => ∃ so c2, e = .returned (.slice so (hs x l2 false).length c2) ∧ Rw w' wb.heap.size so c2 (hs x l2 false) ∧ W.grownBy w' none) := fun W gW => by
    refine (HHs2'.out W (grown_trans GW.out gW)).mono ?_
    rintro e w' ⟨so, c3, rfl, h1, h2⟩
    exact ⟨so, c3, rfl, ⟨own_base h1.row gW.size⟩, h2⟩
  have HOf2 : Hid (∀ W so c3, wb.grownBy W none → Rw W wb.heap.size so c3 (hs x l2 false) → Calls Tryz.prog 10 #[.agg #[.int .i64 A, .int .i64 Bb, .int .i64 Cc], .slice so (hs x l2 false).length c3] W fun e w' => ∃ d p, e = .returned (.tuple #[.pointer (some ⟨d, 0, none⟩), .int .i64 ((hs x l2 false).length : Int), .int .i64 0]) ∧ Lb W w' d S2 p ∧ W.grownBy w' none) := fun W so c3 gW hR => HOf2'.out W so c3 _ (grown_trans GW.out gW) hR
  clear HHs2' HOf2'
  obtain ⟨n2, hn2⟩ : ∃ n2 : Nat, n2 = (hs x l2 false).length := ⟨_, rfl⟩
  go_cut [11, 12, 13] from 25 to 34 (fun v11 v12 v13 W => ∃ bx d p, v11 = .pointer (some ⟨bx, 0, none⟩) ∧ v12 = .int .i64 ((hs x l2 false).length : Int) ∧ v13 = .int .i64 0 ∧ Hid (W.heap[bx]? = some (.cells [Value.pointer (some ⟨d, 0, none⟩)].toArray 27 (0, 0)) ∧ wb.grownBy W none ∧ Lb wb W d S2 p ∧ ¬ p.own bx))
  case first =>
      have hJ0 := HKf.out wb.drew (grown_drew wb none)
      have hJz := HKf.out _ (gn_drew (grown_alloc wb (.cells #[.pointer none] 27)))
      refine wp_region_noPanic ?_
      refine wp_region_held_drew (S := (fun W => W.cell? ⟨B9, 0, none⟩ = some (.int .i64 A) ∧ W.cell? ⟨B9, 1, none⟩ = some (.int .i64 Bb) ∧ W.cell? ⟨B9, 2, none⟩ = some (.int .i64 Cc))) (by kernel_rfl) ?_ (fun hHeld => ?_)
      · (exact hJ0)
      refine wpAnyH_take (i := 0) (oi := { dst := some 26, op := Go.Op.load 23 (Go.Operand.tmp 9), type := 23, pos := "outright.go:45", after := #[], guard := none }) (v := ?_) rfl (by kernel_rfl) (by kernel_rfl) (by kernel_rfl) (fun _ _ _ h => h) (Or.inl ⟨by rfl, ?_⟩) (by assumption) ?_
      rotate_left
      · (intro w hSw; (try dsimp only at hSw); (go_simp <;> with_reducible rfl))
      try simp only [Act.put, List.setIfInBounds_toArray, List.set_cons_zero, List.set_cons_succ]
      refine wpAnyH_take (i := 1) (oi := { dst := some 27, op := Go.Op.load 23 (Go.Operand.tmp 9), type := 23, pos := "outright.go:45", after := #[], guard := none }) (v := ?_) rfl (by kernel_rfl) (by kernel_rfl) (by kernel_rfl) (fun _ _ _ h => h) (Or.inl ⟨by rfl, ?_⟩) (by assumption) ?_
      rotate_left
      · (intro w hSw; (try dsimp only at hSw); (go_simp <;> with_reducible rfl))
      try simp only [Act.put, List.setIfInBounds_toArray, List.set_cons_zero, List.set_cons_succ]
      refine wpAnyH_take (i := 2) (oi := { dst := some 28, op := Go.Op.move (Go.Operand.tmp 2), type := 64, pos := "outright.go:45", after := #[], guard := none }) (v := ?_) rfl (by kernel_rfl) (by kernel_rfl) (by kernel_rfl) (fun _ _ _ h => h) (Or.inl ⟨by rfl, ?_⟩) (by assumption) ?_
      rotate_left
      · (intro w hSw; (try dsimp only at hSw); (go_simp <;> with_reducible rfl))
      try simp only [Act.put, List.setIfInBounds_toArray, List.set_cons_zero, List.set_cons_succ]
      refine wpAnyH_ready (rs := [3, 10]) (by kernel_rfl) (by simp) ?_
      refine AllReadyH.cons (o := { dst := some 29, op := Go.Op.call { callee := Go.Callee.value (Go.Operand.func 22), args := #[Go.Operand.tmp 28], argTypes := #[64] }, type := 64, pos := "outright.go:45", after := #[{ on := 2, ground := Go.Ground.data }], guard := none }) rfl (fun K hK => ?_) ?_
      · skip
        go_simp
        refine (HFw2.out _).mono ?_
        rintro e wy ⟨rfl, hwy⟩
        obtain rfl := hwy.symm
        go_wp2_with fail
        refine hK.out _ _ ?_ (fun hHeld => ?_)
        · ((try dsimp only); first | with_reducible exact hJ | with_reducible exact hJ0 | with_reducible exact hJs | with_reducible exact hJa | with_reducible exact hJz | exact hJs)
        clear hK K
        try simp only [Act.put, List.setIfInBounds_toArray, List.set_cons_zero, List.set_cons_succ]
        refine wpAnyH_ready (rs := [4, 10]) (by kernel_rfl) (by simp) ?_
        refine AllReadyH.cons (o := { dst := some 30, op := Go.Op.call { callee := Go.Callee.value (Go.Operand.func 21), args := #[Go.Operand.tmp 27, Go.Operand.tmp 29, Go.Operand.const (Go.Value.bool false)], argTypes := #[23, 64, 4] }, type := 48, pos := "outright.go:45", after := #[{ on := 1, ground := Go.Ground.data }, { on := 3, ground := Go.Ground.data }, { on := 3, ground := Go.Ground.chain }], guard := none }) rfl (fun K hK => ?_) ?_
        · skip
          go_simp
          refine (HHs2.out _ (grown_drew wb none)).mono ?_
          rintro e wx ⟨so2, c2, rfl, hR2, gx⟩
          have G := hide (grown_trans (grown_drew wb none) gx)
          have hJ := HKf.out _ G.out
          have HR2 := hide hR2
          have hJa := HKf.out _ (gn_alloc G.out (.cells #[.pointer none] 27))
          clear gx hR2
          go_wp2_with fail
          refine hK.out _ _ ?_ (fun hHeld => ?_)
          · ((try dsimp only); first | with_reducible exact hJ | with_reducible exact hJ0 | with_reducible exact hJs | with_reducible exact hJa | with_reducible exact hJz | exact hJs)
          clear hK K
          try simp only [Act.put, List.setIfInBounds_toArray, List.set_cons_zero, List.set_cons_succ]
          refine wpAnyH_ready (rs := [5, 10]) (by kernel_rfl) (by simp) ?_
          refine AllReadyH.cons (o := { dst := some 31, op := Go.Op.call { callee := Go.Callee.value (Go.Operand.func 10), args := #[Go.Operand.tmp 26, Go.Operand.tmp 30], argTypes := #[23, 48] }, type := 43, pos := "outright.go:45", after := #[{ on := 0, ground := Go.Ground.data }, { on := 4, ground := Go.Ground.data }, { on := 4, ground := Go.Ground.chain }], guard := none }) rfl (fun K hK => ?_) ?_
          · skip
            go_simp
            refine (HOf2.out _ _ _ G.out HR2.out).mono ?_
            rintro e wx ⟨d, p, rfl, hL, gx⟩
            have HZ := hide (fi_a G.out gx hL)
            have hJa := HKf.out _ (gn_alloc (grown_trans G.out gx) (.cells #[.pointer none] 27))
            have hJs := HKf.out _ HZ.out.2.1
            have hJ := HKf.out _ (grown_trans G.out gx)
            clear gx hL
            go_wp2_with fail
            refine hK.out _ _ ?_ (fun hHeld => ?_)
            · ((try dsimp only); first | with_reducible exact hJ | with_reducible exact hJ0 | with_reducible exact hJs | with_reducible exact hJa | with_reducible exact hJz | exact hJs)
            clear hK K
            try simp only [Act.put, List.setIfInBounds_toArray, List.set_cons_zero, List.set_cons_succ]
            refine wpAnyH_take (i := 6) (oi := { dst := some 25, op := Go.Op.move (Go.Operand.tmp 31), type := 43, pos := "outright.go:45", after := #[{ on := 5, ground := Go.Ground.data }], guard := none }) (v := ?_) rfl (by kernel_rfl) (by kernel_rfl) (by kernel_rfl) (fun _ _ _ h => h) (Or.inl ⟨by rfl, ?_⟩) (by assumption) ?_
            rotate_left
            · (intro w hSw; (try dsimp only at hSw); (go_simp <;> with_reducible rfl))
            try simp only [Act.put, List.setIfInBounds_toArray, List.set_cons_zero, List.set_cons_succ]
            refine wpAnyH_take (i := 7) (oi := { dst := some 32, op := Go.Op.extract (Go.Operand.tmp 25) 0, type := 27, pos := "outright.go:45", after := #[{ on := 6, ground := Go.Ground.data }], guard := none }) (v := ?_) rfl (by kernel_rfl) (by kernel_rfl) (by kernel_rfl) (fun _ _ _ h => h) (Or.inl ⟨by rfl, ?_⟩) (by assumption) ?_
            rotate_left
            · (intro w hSw; (try dsimp only at hSw); (go_simp <;> with_reducible rfl))
            try simp only [Act.put, List.setIfInBounds_toArray, List.set_cons_zero, List.set_cons_succ]
            refine wpAnyH_take (i := 8) (oi := { dst := some 33, op := Go.Op.extract (Go.Operand.tmp 25) 1, type := 3, pos := "outright.go:45", after := #[{ on := 6, ground := Go.Ground.data }, { on := 11, ground := Go.Ground.gcOnly Go.Departure.lateStores }], guard := none }) (v := ?_) rfl (by kernel_rfl) (by kernel_rfl) (by kernel_rfl) (fun _ _ _ h => h) (Or.inl ⟨by rfl, ?_⟩) (by assumption) ?_
            rotate_left
            · (intro w hSw; (try dsimp only at hSw); (go_simp <;> with_reducible rfl))
            try simp only [Act.put, List.setIfInBounds_toArray, List.set_cons_zero, List.set_cons_succ]
            refine wpAnyH_take (i := 9) (oi := { dst := some 34, op := Go.Op.extract (Go.Operand.tmp 25) 2, type := 24, pos := "outright.go:45", after := #[{ on := 6, ground := Go.Ground.data }, { on := 12, ground := Go.Ground.gcOnly Go.Departure.lateStores }], guard := none }) (v := ?_) rfl (by kernel_rfl) (by kernel_rfl) (by kernel_rfl) (fun _ _ _ h => h) (Or.inl ⟨by rfl, ?_⟩) (by assumption) ?_
            rotate_left
            · (intro w hSw; (try dsimp only at hSw); (go_simp <;> with_reducible rfl))
            try simp only [Act.put, List.setIfInBounds_toArray, List.set_cons_zero, List.set_cons_succ]
            refine wpAnyH_ready (rs := [10]) (by kernel_rfl) (by simp) ?_
            refine AllReadyH.cons (o := { dst := some 11, op := Go.Op.alloc 27, type := 0, pos := "outright.go:45", after := #[], guard := none }) rfl (fun K hK => ?_) ?_
            rotate_left
            · exact AllReadyH.nil
            go_simp
            refine hK.out _ _ ?_ (fun hHeld => ?_)
            · ((try dsimp only); first | with_reducible exact hJ | with_reducible exact hJ0 | with_reducible exact hJs | with_reducible exact hJa | with_reducible exact hJz | exact hJs)
            clear hK K
            try simp only [Act.put, List.setIfInBounds_toArray, List.set_cons_zero, List.set_cons_succ]
            refine wpAnyH_ready (rs := [11]) (by kernel_rfl) (by simp) ?_
            refine AllReadyH.cons (o := { dst := none, op := Go.Op.store 27 (Go.Operand.tmp 11) (Go.Operand.tmp 32), type := 0, pos := "outright.go:45", after := #[{ on := 10, ground := Go.Ground.data }, { on := 7, ground := Go.Ground.data }, { on := 5, ground := Go.Ground.chain }, { on := 0, ground := Go.Ground.phase }, { on := 1, ground := Go.Ground.phase }, { on := 2, ground := Go.Ground.phase }, { on := 3, ground := Go.Ground.phase }, { on := 4, ground := Go.Ground.phase }, { on := 5, ground := Go.Ground.phase }, { on := 6, ground := Go.Ground.phase }, { on := 7, ground := Go.Ground.phase }, { on := 8, ground := Go.Ground.textOnly Go.Departure.lateStores }, { on := 9, ground := Go.Ground.textOnly Go.Departure.lateStores }, { on := 10, ground := Go.Ground.phase }], guard := none }) rfl (fun K hK => ?_) ?_
            rotate_left
            · exact AllReadyH.nil
            go_simp
            refine hK.out _ _ ?_ (fun hHeld => ?_)
            · ((try dsimp only); first | with_reducible exact hJ | with_reducible exact hJ0 | with_reducible exact hJs | with_reducible exact hJa | with_reducible exact hJz | exact hJs)
            clear hK K
            try simp only [Act.put, List.setIfInBounds_toArray, List.set_cons_zero, List.set_cons_succ]
            refine wpAnyH_take (i := 12) (oi := { dst := some 12, op := Go.Op.assign (Go.Operand.tmp 33), type := 3, pos := "outright.go:45", after := #[{ on := 8, ground := Go.Ground.data }, { on := 11, ground := Go.Ground.chain }, { on := 0, ground := Go.Ground.phase }, { on := 1, ground := Go.Ground.phase }, { on := 2, ground := Go.Ground.phase }, { on := 3, ground := Go.Ground.phase }, { on := 4, ground := Go.Ground.phase }, { on := 5, ground := Go.Ground.phase }, { on := 6, ground := Go.Ground.phase }, { on := 7, ground := Go.Ground.phase }, { on := 8, ground := Go.Ground.phase }, { on := 9, ground := Go.Ground.textOnly Go.Departure.lateStores }, { on := 10, ground := Go.Ground.phase }, { on := 11, ground := Go.Ground.phase }], guard := none }) (v := ?_) rfl (by kernel_rfl) (by kernel_rfl) (by kernel_rfl) (fun _ _ _ h => h) (Or.inl ⟨by rfl, ?_⟩) (by assumption) ?_
            rotate_left
            · (intro w hSw; (try dsimp only at hSw); (go_simp <;> with_reducible rfl))
            try simp only [Act.put, List.setIfInBounds_toArray, List.set_cons_zero, List.set_cons_succ]
            refine wpAnyH_take (i := 13) (oi := { dst := some 13, op := Go.Op.assign (Go.Operand.tmp 34), type := 24, pos := "outright.go:45", after := #[{ on := 9, ground := Go.Ground.data }, { on := 12, ground := Go.Ground.chain }, { on := 0, ground := Go.Ground.phase }, { on := 1, ground := Go.Ground.phase }, { on := 2, ground := Go.Ground.phase }, { on := 3, ground := Go.Ground.phase }, { on := 4, ground := Go.Ground.phase }, { on := 5, ground := Go.Ground.phase }, { on := 6, ground := Go.Ground.phase }, { on := 7, ground := Go.Ground.phase }, { on := 8, ground := Go.Ground.phase }, { on := 9, ground := Go.Ground.phase }, { on := 10, ground := Go.Ground.phase }, { on := 11, ground := Go.Ground.phase }, { on := 12, ground := Go.Ground.phase }], guard := none }) (v := ?_) rfl (by kernel_rfl) (by kernel_rfl) (by kernel_rfl) (fun _ _ _ h => h) (Or.inl ⟨by rfl, ?_⟩) (by assumption) ?_
            rotate_left
            · (intro w hSw; (try dsimp only at hSw); (go_simp <;> with_reducible rfl))
            try simp only [Act.put, List.setIfInBounds_toArray, List.set_cons_zero, List.set_cons_succ]
            refine wpAnyH_done (by kernel_rfl) ?_ _
            refine NoPanic.normal ?_
            go_wp2
            go_meet
            case rel => exact ⟨_, _, _, rfl, rfl, rfl, HZ.out⟩
          refine AllReadyH.cons (o := { dst := some 11, op := Go.Op.alloc 27, type := 0, pos := "outright.go:45", after := #[], guard := none }) rfl (fun K hK => ?_) ?_
          · skip
            go_simp
            refine hK.out _ _ ?_ (fun hHeld => ?_)
            · ((try dsimp only); first | with_reducible exact hJ | with_reducible exact hJ0 | with_reducible exact hJs | with_reducible exact hJa | with_reducible exact hJz | exact hJs)
            clear hK K
            try simp only [Act.put, List.setIfInBounds_toArray, List.set_cons_zero, List.set_cons_succ]
            obtain ⟨bx, hbx⟩ : ∃ bx, wx.heap.size = bx := ⟨_, rfl⟩
            have HBx : Hid ((wx.alloc (.cells #[.pointer none] 27)).heap[bx]? = some (.cells [Value.pointer none].toArray 27 (0, 0))) := by rw [← hbx]; exact heap_alloc_new wx _
            have HBg : Hid (wb.heap.size ≤ bx) := by rw [← hbx]; exact G.out.size
            have G : Hid (wb.grownBy (wx.alloc (.cells #[.pointer none] 27)) none) := gn_alloc G.out _
            have hJ := HKf.out _ G.out
            have HR2 := hide (HR2.out.then (grown_alloc wx (.cells #[.pointer none] 27)))
            try rw [hbx]
            clear hbx
            refine wpAnyH_ready (rs := [5]) (by kernel_rfl) (by simp) ?_
            refine AllReadyH.cons (o := { dst := some 31, op := Go.Op.call { callee := Go.Callee.value (Go.Operand.func 10), args := #[Go.Operand.tmp 26, Go.Operand.tmp 30], argTypes := #[23, 48] }, type := 43, pos := "outright.go:45", after := #[{ on := 0, ground := Go.Ground.data }, { on := 4, ground := Go.Ground.data }, { on := 4, ground := Go.Ground.chain }], guard := none }) rfl (fun K hK => ?_) ?_
            rotate_left
            · exact AllReadyH.nil
            go_simp
            refine (HOf2.out _ _ _ G.out HR2.out).mono ?_
            rintro e wx ⟨d, p, rfl, hL, gx⟩
            have HBl := hide (row_lt HBx.out)
            have HBx := hide ((gx.block _ (row_lt HBx.out) (by simp)).trans HBx.out)
            have y0 : wx.cell? ⟨bx, 0, none⟩ = some (.pointer none) := by have := cell_row HBx.out 0; simpa using this
            have z0 : wx.frozen? ⟨bx, 0, none⟩ = false := free_row HBx.out 0
            have HZ := hide (fi_b G.out gx hL HBl.out HBg.out HBx.out)
            have hJs := HKf.out _ HZ.out.2.1
            have hJ := HKf.out _ (grown_trans G.out gx)
            clear gx hL
            go_wp2_with fail
            refine hK.out _ _ ?_ (fun hHeld => ?_)
            · ((try dsimp only); first | with_reducible exact hJ | with_reducible exact hJ0 | with_reducible exact hJs | with_reducible exact hJa | with_reducible exact hJz | exact hJs)
            clear hK K
            try simp only [Act.put, List.setIfInBounds_toArray, List.set_cons_zero, List.set_cons_succ]
            refine wpAnyH_take (i := 6) (oi := { dst := some 25, op := Go.Op.move (Go.Operand.tmp 31), type := 43, pos := "outright.go:45", after := #[{ on := 5, ground := Go.Ground.data }], guard := none }) (v := ?_) rfl (by kernel_rfl) (by kernel_rfl) (by kernel_rfl) (fun _ _ _ h => h) (Or.inl ⟨by rfl, ?_⟩) (by assumption) ?_
            rotate_left
            · (intro w hSw; (try dsimp only at hSw); (go_simp <;> with_reducible rfl))
            try simp only [Act.put, List.setIfInBounds_toArray, List.set_cons_zero, List.set_cons_succ]
            refine wpAnyH_take (i := 7) (oi := { dst := some 32, op := Go.Op.extract (Go.Operand.tmp 25) 0, type := 27, pos := "outright.go:45", after := #[{ on := 6, ground := Go.Ground.data }], guard := none }) (v := ?_) rfl (by kernel_rfl) (by kernel_rfl) (by kernel_rfl) (fun _ _ _ h => h) (Or.inl ⟨by rfl, ?_⟩) (by assumption) ?_
            rotate_left
            · (intro w hSw; (try dsimp only at hSw); (go_simp <;> with_reducible rfl))
            try simp only [Act.put, List.setIfInBounds_toArray, List.set_cons_zero, List.set_cons_succ]
            refine wpAnyH_take (i := 8) (oi := { dst := some 33, op := Go.Op.extract (Go.Operand.tmp 25) 1, type := 3, pos := "outright.go:45", after := #[{ on := 6, ground := Go.Ground.data }, { on := 11, ground := Go.Ground.gcOnly Go.Departure.lateStores }], guard := none }) (v := ?_) rfl (by kernel_rfl) (by kernel_rfl) (by kernel_rfl) (fun _ _ _ h => h) (Or.inl ⟨by rfl, ?_⟩) (by assumption) ?_
            rotate_left
            · (intro w hSw; (try dsimp only at hSw); (go_simp <;> with_reducible rfl))
            try simp only [Act.put, List.setIfInBounds_toArray, List.set_cons_zero, List.set_cons_succ]
            refine wpAnyH_take (i := 9) (oi := { dst := some 34, op := Go.Op.extract (Go.Operand.tmp 25) 2, type := 24, pos := "outright.go:45", after := #[{ on := 6, ground := Go.Ground.data }, { on := 12, ground := Go.Ground.gcOnly Go.Departure.lateStores }], guard := none }) (v := ?_) rfl (by kernel_rfl) (by kernel_rfl) (by kernel_rfl) (fun _ _ _ h => h) (Or.inl ⟨by rfl, ?_⟩) (by assumption) ?_
            rotate_left
            · (intro w hSw; (try dsimp only at hSw); (go_simp <;> with_reducible rfl))
            try simp only [Act.put, List.setIfInBounds_toArray, List.set_cons_zero, List.set_cons_succ]
            refine wpAnyH_ready (rs := [11]) (by kernel_rfl) (by simp) ?_
            refine AllReadyH.cons (o := { dst := none, op := Go.Op.store 27 (Go.Operand.tmp 11) (Go.Operand.tmp 32), type := 0, pos := "outright.go:45", after := #[{ on := 10, ground := Go.Ground.data }, { on := 7, ground := Go.Ground.data }, { on := 5, ground := Go.Ground.chain }, { on := 0, ground := Go.Ground.phase }, { on := 1, ground := Go.Ground.phase }, { on := 2, ground := Go.Ground.phase }, { on := 3, ground := Go.Ground.phase }, { on := 4, ground := Go.Ground.phase }, { on := 5, ground := Go.Ground.phase }, { on := 6, ground := Go.Ground.phase }, { on := 7, ground := Go.Ground.phase }, { on := 8, ground := Go.Ground.textOnly Go.Departure.lateStores }, { on := 9, ground := Go.Ground.textOnly Go.Departure.lateStores }, { on := 10, ground := Go.Ground.phase }], guard := none }) rfl (fun K hK => ?_) ?_
            rotate_left
            · exact AllReadyH.nil
            go_simp
            refine hK.out _ _ ?_ (fun hHeld => ?_)
            · ((try dsimp only); first | with_reducible exact hJ | with_reducible exact hJ0 | with_reducible exact hJs | with_reducible exact hJa | with_reducible exact hJz | exact hJs)
            clear hK K
            try simp only [Act.put, List.setIfInBounds_toArray, List.set_cons_zero, List.set_cons_succ]
            refine wpAnyH_take (i := 12) (oi := { dst := some 12, op := Go.Op.assign (Go.Operand.tmp 33), type := 3, pos := "outright.go:45", after := #[{ on := 8, ground := Go.Ground.data }, { on := 11, ground := Go.Ground.chain }, { on := 0, ground := Go.Ground.phase }, { on := 1, ground := Go.Ground.phase }, { on := 2, ground := Go.Ground.phase }, { on := 3, ground := Go.Ground.phase }, { on := 4, ground := Go.Ground.phase }, { on := 5, ground := Go.Ground.phase }, { on := 6, ground := Go.Ground.phase }, { on := 7, ground := Go.Ground.phase }, { on := 8, ground := Go.Ground.phase }, { on := 9, ground := Go.Ground.textOnly Go.Departure.lateStores }, { on := 10, ground := Go.Ground.phase }, { on := 11, ground := Go.Ground.phase }], guard := none }) (v := ?_) rfl (by kernel_rfl) (by kernel_rfl) (by kernel_rfl) (fun _ _ _ h => h) (Or.inl ⟨by rfl, ?_⟩) (by assumption) ?_
            rotate_left
            · (intro w hSw; (try dsimp only at hSw); (go_simp <;> with_reducible rfl))
            try simp only [Act.put, List.setIfInBounds_toArray, List.set_cons_zero, List.set_cons_succ]
            refine wpAnyH_take (i := 13) (oi := { dst := some 13, op := Go.Op.assign (Go.Operand.tmp 34), type := 24, pos := "outright.go:45", after := #[{ on := 9, ground := Go.Ground.data }, { on := 12, ground := Go.Ground.chain }, { on := 0, ground := Go.Ground.phase }, { on := 1, ground := Go.Ground.phase }, { on := 2, ground := Go.Ground.phase }, { on := 3, ground := Go.Ground.phase }, { on := 4, ground := Go.Ground.phase }, { on := 5, ground := Go.Ground.phase }, { on := 6, ground := Go.Ground.phase }, { on := 7, ground := Go.Ground.phase }, { on := 8, ground := Go.Ground.phase }, { on := 9, ground := Go.Ground.phase }, { on := 10, ground := Go.Ground.phase }, { on := 11, ground := Go.Ground.phase }, { on := 12, ground := Go.Ground.phase }], guard := none }) (v := ?_) rfl (by kernel_rfl) (by kernel_rfl) (by kernel_rfl) (fun _ _ _ h => h) (Or.inl ⟨by rfl, ?_⟩) (by assumption) ?_
            rotate_left
            · (intro w hSw; (try dsimp only at hSw); (go_simp <;> with_reducible rfl))
            try simp only [Act.put, List.setIfInBounds_toArray, List.set_cons_zero, List.set_cons_succ]
            refine wpAnyH_done (by kernel_rfl) ?_ _
            refine NoPanic.normal ?_
            go_wp2
            go_meet
            case rel => exact ⟨_, _, _, rfl, rfl, rfl, HZ.out⟩
          exact AllReadyH.nil
        refine AllReadyH.cons (o := { dst := some 11, op := Go.Op.alloc 27, type := 0, pos := "outright.go:45", after := #[], guard := none }) rfl (fun K hK => ?_) ?_
        · skip
          go_simp
          refine hK.out _ _ ?_ (fun hHeld => ?_)
          · ((try dsimp only); first | with_reducible exact hJ | with_reducible exact hJ0 | with_reducible exact hJs | with_reducible exact hJa | with_reducible exact hJz | exact hJs)
          clear hK K
          try simp only [Act.put, List.setIfInBounds_toArray, List.set_cons_zero, List.set_cons_succ]
          obtain ⟨bx, hbx⟩ : ∃ bx, wb.heap.size = bx := ⟨_, rfl⟩
          have HBx : Hid ((wb.alloc (.cells #[.pointer none] 27)).drew.heap[bx]? = some (.cells [Value.pointer none].toArray 27 (0, 0))) := by rw [← hbx]; exact heap_alloc_new wb _
          have HBg : Hid (wb.heap.size ≤ bx) := by rw [← hbx]; exact Nat.le_refl _
          have G : Hid (wb.grownBy (wb.alloc (.cells #[.pointer none] 27)).drew none) := gn_drew (grown_alloc wb _)
          have hJ := HKf.out _ G.out
          try rw [hbx]
          clear hbx
          refine wpAnyH_ready (rs := [4]) (by kernel_rfl) (by simp) ?_
          refine AllReadyH.cons (o := { dst := some 30, op := Go.Op.call { callee := Go.Callee.value (Go.Operand.func 21), args := #[Go.Operand.tmp 27, Go.Operand.tmp 29, Go.Operand.const (Go.Value.bool false)], argTypes := #[23, 64, 4] }, type := 48, pos := "outright.go:45", after := #[{ on := 1, ground := Go.Ground.data }, { on := 3, ground := Go.Ground.data }, { on := 3, ground := Go.Ground.chain }], guard := none }) rfl (fun K hK => ?_) ?_
          rotate_left
          · exact AllReadyH.nil
          go_simp
          refine (HHs2.out _ G.out).mono ?_
          rintro e wx ⟨so2, c2, rfl, hR2, gx⟩
          have G := hide (grown_trans G.out gx)
          have hJ := HKf.out _ G.out
          have HR2 := hide hR2
          have HBx := hide ((gx.block _ (row_lt HBx.out) (by simp)).trans HBx.out)
          clear gx hR2
          go_wp2_with fail
          refine hK.out _ _ ?_ (fun hHeld => ?_)
          · ((try dsimp only); first | with_reducible exact hJ | with_reducible exact hJ0 | with_reducible exact hJs | with_reducible exact hJa | with_reducible exact hJz | exact hJs)
          clear hK K
          try simp only [Act.put, List.setIfInBounds_toArray, List.set_cons_zero, List.set_cons_succ]
          refine wpAnyH_ready (rs := [5]) (by kernel_rfl) (by simp) ?_
          refine AllReadyH.cons (o := { dst := some 31, op := Go.Op.call { callee := Go.Callee.value (Go.Operand.func 10), args := #[Go.Operand.tmp 26, Go.Operand.tmp 30], argTypes := #[23, 48] }, type := 43, pos := "outright.go:45", after := #[{ on := 0, ground := Go.Ground.data }, { on := 4, ground := Go.Ground.data }, { on := 4, ground := Go.Ground.chain }], guard := none }) rfl (fun K hK => ?_) ?_
          rotate_left
          · exact AllReadyH.nil
          go_simp
          refine (HOf2.out _ _ _ G.out HR2.out).mono ?_
          rintro e wx ⟨d, p, rfl, hL, gx⟩
          have HBl := hide (row_lt HBx.out)
          have HBx := hide ((gx.block _ (row_lt HBx.out) (by simp)).trans HBx.out)
          have y0 : wx.cell? ⟨bx, 0, none⟩ = some (.pointer none) := by have := cell_row HBx.out 0; simpa using this
          have z0 : wx.frozen? ⟨bx, 0, none⟩ = false := free_row HBx.out 0
          have HZ := hide (fi_b G.out gx hL HBl.out HBg.out HBx.out)
          have hJs := HKf.out _ HZ.out.2.1
          have hJ := HKf.out _ (grown_trans G.out gx)
          clear gx hL
          go_wp2_with fail
          refine hK.out _ _ ?_ (fun hHeld => ?_)
          · ((try dsimp only); first | with_reducible exact hJ | with_reducible exact hJ0 | with_reducible exact hJs | with_reducible exact hJa | with_reducible exact hJz | exact hJs)
          clear hK K
          try simp only [Act.put, List.setIfInBounds_toArray, List.set_cons_zero, List.set_cons_succ]
          refine wpAnyH_take (i := 6) (oi := { dst := some 25, op := Go.Op.move (Go.Operand.tmp 31), type := 43, pos := "outright.go:45", after := #[{ on := 5, ground := Go.Ground.data }], guard := none }) (v := ?_) rfl (by kernel_rfl) (by kernel_rfl) (by kernel_rfl) (fun _ _ _ h => h) (Or.inl ⟨by rfl, ?_⟩) (by assumption) ?_
          rotate_left
          · (intro w hSw; (try dsimp only at hSw); (go_simp <;> with_reducible rfl))
          try simp only [Act.put, List.setIfInBounds_toArray, List.set_cons_zero, List.set_cons_succ]
          refine wpAnyH_take (i := 7) (oi := { dst := some 32, op := Go.Op.extract (Go.Operand.tmp 25) 0, type := 27, pos := "outright.go:45", after := #[{ on := 6, ground := Go.Ground.data }], guard := none }) (v := ?_) rfl (by kernel_rfl) (by kernel_rfl) (by kernel_rfl) (fun _ _ _ h => h) (Or.inl ⟨by rfl, ?_⟩) (by assumption) ?_
          rotate_left
          · (intro w hSw; (try dsimp only at hSw); (go_simp <;> with_reducible rfl))
          try simp only [Act.put, List.setIfInBounds_toArray, List.set_cons_zero, List.set_cons_succ]
          refine wpAnyH_take (i := 8) (oi := { dst := some 33, op := Go.Op.extract (Go.Operand.tmp 25) 1, type := 3, pos := "outright.go:45", after := #[{ on := 6, ground := Go.Ground.data }, { on := 11, ground := Go.Ground.gcOnly Go.Departure.lateStores }], guard := none }) (v := ?_) rfl (by kernel_rfl) (by kernel_rfl) (by kernel_rfl) (fun _ _ _ h => h) (Or.inl ⟨by rfl, ?_⟩) (by assumption) ?_
          rotate_left
          · (intro w hSw; (try dsimp only at hSw); (go_simp <;> with_reducible rfl))
          try simp only [Act.put, List.setIfInBounds_toArray, List.set_cons_zero, List.set_cons_succ]
          refine wpAnyH_take (i := 9) (oi := { dst := some 34, op := Go.Op.extract (Go.Operand.tmp 25) 2, type := 24, pos := "outright.go:45", after := #[{ on := 6, ground := Go.Ground.data }, { on := 12, ground := Go.Ground.gcOnly Go.Departure.lateStores }], guard := none }) (v := ?_) rfl (by kernel_rfl) (by kernel_rfl) (by kernel_rfl) (fun _ _ _ h => h) (Or.inl ⟨by rfl, ?_⟩) (by assumption) ?_
          rotate_left
          · (intro w hSw; (try dsimp only at hSw); (go_simp <;> with_reducible rfl))
          try simp only [Act.put, List.setIfInBounds_toArray, List.set_cons_zero, List.set_cons_succ]
          refine wpAnyH_ready (rs := [11]) (by kernel_rfl) (by simp) ?_
          refine AllReadyH.cons (o := { dst := none, op := Go.Op.store 27 (Go.Operand.tmp 11) (Go.Operand.tmp 32), type := 0, pos := "outright.go:45", after := #[{ on := 10, ground := Go.Ground.data }, { on := 7, ground := Go.Ground.data }, { on := 5, ground := Go.Ground.chain }, { on := 0, ground := Go.Ground.phase }, { on := 1, ground := Go.Ground.phase }, { on := 2, ground := Go.Ground.phase }, { on := 3, ground := Go.Ground.phase }, { on := 4, ground := Go.Ground.phase }, { on := 5, ground := Go.Ground.phase }, { on := 6, ground := Go.Ground.phase }, { on := 7, ground := Go.Ground.phase }, { on := 8, ground := Go.Ground.textOnly Go.Departure.lateStores }, { on := 9, ground := Go.Ground.textOnly Go.Departure.lateStores }, { on := 10, ground := Go.Ground.phase }], guard := none }) rfl (fun K hK => ?_) ?_
          rotate_left
          · exact AllReadyH.nil
          go_simp
          refine hK.out _ _ ?_ (fun hHeld => ?_)
          · ((try dsimp only); first | with_reducible exact hJ | with_reducible exact hJ0 | with_reducible exact hJs | with_reducible exact hJa | with_reducible exact hJz | exact hJs)
          clear hK K
          try simp only [Act.put, List.setIfInBounds_toArray, List.set_cons_zero, List.set_cons_succ]
          refine wpAnyH_take (i := 12) (oi := { dst := some 12, op := Go.Op.assign (Go.Operand.tmp 33), type := 3, pos := "outright.go:45", after := #[{ on := 8, ground := Go.Ground.data }, { on := 11, ground := Go.Ground.chain }, { on := 0, ground := Go.Ground.phase }, { on := 1, ground := Go.Ground.phase }, { on := 2, ground := Go.Ground.phase }, { on := 3, ground := Go.Ground.phase }, { on := 4, ground := Go.Ground.phase }, { on := 5, ground := Go.Ground.phase }, { on := 6, ground := Go.Ground.phase }, { on := 7, ground := Go.Ground.phase }, { on := 8, ground := Go.Ground.phase }, { on := 9, ground := Go.Ground.textOnly Go.Departure.lateStores }, { on := 10, ground := Go.Ground.phase }, { on := 11, ground := Go.Ground.phase }], guard := none }) (v := ?_) rfl (by kernel_rfl) (by kernel_rfl) (by kernel_rfl) (fun _ _ _ h => h) (Or.inl ⟨by rfl, ?_⟩) (by assumption) ?_
          rotate_left
          · (intro w hSw; (try dsimp only at hSw); (go_simp <;> with_reducible rfl))
          try simp only [Act.put, List.setIfInBounds_toArray, List.set_cons_zero, List.set_cons_succ]
          refine wpAnyH_take (i := 13) (oi := { dst := some 13, op := Go.Op.assign (Go.Operand.tmp 34), type := 24, pos := "outright.go:45", after := #[{ on := 9, ground := Go.Ground.data }, { on := 12, ground := Go.Ground.chain }, { on := 0, ground := Go.Ground.phase }, { on := 1, ground := Go.Ground.phase }, { on := 2, ground := Go.Ground.phase }, { on := 3, ground := Go.Ground.phase }, { on := 4, ground := Go.Ground.phase }, { on := 5, ground := Go.Ground.phase }, { on := 6, ground := Go.Ground.phase }, { on := 7, ground := Go.Ground.phase }, { on := 8, ground := Go.Ground.phase }, { on := 9, ground := Go.Ground.phase }, { on := 10, ground := Go.Ground.phase }, { on := 11, ground := Go.Ground.phase }, { on := 12, ground := Go.Ground.phase }], guard := none }) (v := ?_) rfl (by kernel_rfl) (by kernel_rfl) (by kernel_rfl) (fun _ _ _ h => h) (Or.inl ⟨by rfl, ?_⟩) (by assumption) ?_
          rotate_left
          · (intro w hSw; (try dsimp only at hSw); (go_simp <;> with_reducible rfl))
          try simp only [Act.put, List.setIfInBounds_toArray, List.set_cons_zero, List.set_cons_succ]
          refine wpAnyH_done (by kernel_rfl) ?_ _
          refine NoPanic.normal ?_
          go_wp2
          go_meet
          case rel => exact ⟨_, _, _, rfl, rfl, rfl, HZ.out⟩
        exact AllReadyH.nil
      refine AllReadyH.cons (o := { dst := some 11, op := Go.Op.alloc 27, type := 0, pos := "outright.go:45", after := #[], guard := none }) rfl (fun K hK => ?_) ?_
      · skip
        go_simp
        refine hK.out _ _ ?_ (fun hHeld => ?_)
        · ((try dsimp only); first | with_reducible exact hJ | with_reducible exact hJ0 | with_reducible exact hJs | with_reducible exact hJa | with_reducible exact hJz | exact hJs)
        clear hK K
        try simp only [Act.put, List.setIfInBounds_toArray, List.set_cons_zero, List.set_cons_succ]
        obtain ⟨bx, hbx⟩ : ∃ bx, wb.heap.size = bx := ⟨_, rfl⟩
        have HBx : Hid ((wb.alloc (.cells #[.pointer none] 27)).drew.heap[bx]? = some (.cells [Value.pointer none].toArray 27 (0, 0))) := by rw [← hbx]; exact heap_alloc_new wb _
        have HBg : Hid (wb.heap.size ≤ bx) := by rw [← hbx]; exact Nat.le_refl _
        have G : Hid (wb.grownBy (wb.alloc (.cells #[.pointer none] 27)).drew none) := gn_drew (grown_alloc wb _)
        have hJ := HKf.out _ G.out
        try rw [hbx]
        clear hbx
        refine wpAnyH_ready (rs := [3]) (by kernel_rfl) (by simp) ?_
        refine AllReadyH.cons (o := { dst := some 29, op := Go.Op.call { callee := Go.Callee.value (Go.Operand.func 22), args := #[Go.Operand.tmp 28], argTypes := #[64] }, type := 64, pos := "outright.go:45", after := #[{ on := 2, ground := Go.Ground.data }], guard := none }) rfl (fun K hK => ?_) ?_
        rotate_left
        · exact AllReadyH.nil
        go_simp
        refine (HFw2.out _).mono ?_
        rintro e wy ⟨rfl, hwy⟩
        obtain rfl := hwy.symm
        go_wp2_with fail
        refine hK.out _ _ ?_ (fun hHeld => ?_)
        · ((try dsimp only); first | with_reducible exact hJ | with_reducible exact hJ0 | with_reducible exact hJs | with_reducible exact hJa | with_reducible exact hJz | exact hJs)
        clear hK K
        try simp only [Act.put, List.setIfInBounds_toArray, List.set_cons_zero, List.set_cons_succ]
        refine wpAnyH_ready (rs := [4]) (by kernel_rfl) (by simp) ?_
        refine AllReadyH.cons (o := { dst := some 30, op := Go.Op.call { callee := Go.Callee.value (Go.Operand.func 21), args := #[Go.Operand.tmp 27, Go.Operand.tmp 29, Go.Operand.const (Go.Value.bool false)], argTypes := #[23, 64, 4] }, type := 48, pos := "outright.go:45", after := #[{ on := 1, ground := Go.Ground.data }, { on := 3, ground := Go.Ground.data }, { on := 3, ground := Go.Ground.chain }], guard := none }) rfl (fun K hK => ?_) ?_
        rotate_left
        · exact AllReadyH.nil
        go_simp
        refine (HHs2.out _ G.out).mono ?_
        rintro e wx ⟨so2, c2, rfl, hR2, gx⟩
        have G := hide (grown_trans G.out gx)
        have hJ := HKf.out _ G.out
        have HR2 := hide hR2
        have HBx := hide ((gx.block _ (row_lt HBx.out) (by simp)).trans HBx.out)
        clear gx hR2
        go_wp2_with fail
        refine hK.out _ _ ?_ (fun hHeld => ?_)
        · ((try dsimp only); first | with_reducible exact hJ | with_reducible exact hJ0 | with_reducible exact hJs | with_reducible exact hJa | with_reducible exact hJz | exact hJs)
        clear hK K
        try simp only [Act.put, List.setIfInBounds_toArray, List.set_cons_zero, List.set_cons_succ]
        refine wpAnyH_ready (rs := [5]) (by kernel_rfl) (by simp) ?_
        refine AllReadyH.cons (o := { dst := some 31, op := Go.Op.call { callee := Go.Callee.value (Go.Operand.func 10), args := #[Go.Operand.tmp 26, Go.Operand.tmp 30], argTypes := #[23, 48] }, type := 43, pos := "outright.go:45", after := #[{ on := 0, ground := Go.Ground.data }, { on := 4, ground := Go.Ground.data }, { on := 4, ground := Go.Ground.chain }], guard := none }) rfl (fun K hK => ?_) ?_
        rotate_left
        · exact AllReadyH.nil
        go_simp
        refine (HOf2.out _ _ _ G.out HR2.out).mono ?_
        rintro e wx ⟨d, p, rfl, hL, gx⟩
        have HBl := hide (row_lt HBx.out)
        have HBx := hide ((gx.block _ (row_lt HBx.out) (by simp)).trans HBx.out)
        have y0 : wx.cell? ⟨bx, 0, none⟩ = some (.pointer none) := by have := cell_row HBx.out 0; simpa using this
        have z0 : wx.frozen? ⟨bx, 0, none⟩ = false := free_row HBx.out 0
        have HZ := hide (fi_b G.out gx hL HBl.out HBg.out HBx.out)
        have hJs := HKf.out _ HZ.out.2.1
        have hJ := HKf.out _ (grown_trans G.out gx)
        clear gx hL
        go_wp2_with fail
        refine hK.out _ _ ?_ (fun hHeld => ?_)
        · ((try dsimp only); first | with_reducible exact hJ | with_reducible exact hJ0 | with_reducible exact hJs | with_reducible exact hJa | with_reducible exact hJz | exact hJs)
        clear hK K
        try simp only [Act.put, List.setIfInBounds_toArray, List.set_cons_zero, List.set_cons_succ]
        refine wpAnyH_take (i := 6) (oi := { dst := some 25, op := Go.Op.move (Go.Operand.tmp 31), type := 43, pos := "outright.go:45", after := #[{ on := 5, ground := Go.Ground.data }], guard := none }) (v := ?_) rfl (by kernel_rfl) (by kernel_rfl) (by kernel_rfl) (fun _ _ _ h => h) (Or.inl ⟨by rfl, ?_⟩) (by assumption) ?_
        rotate_left
        · (intro w hSw; (try dsimp only at hSw); (go_simp <;> with_reducible rfl))
        try simp only [Act.put, List.setIfInBounds_toArray, List.set_cons_zero, List.set_cons_succ]
        refine wpAnyH_take (i := 7) (oi := { dst := some 32, op := Go.Op.extract (Go.Operand.tmp 25) 0, type := 27, pos := "outright.go:45", after := #[{ on := 6, ground := Go.Ground.data }], guard := none }) (v := ?_) rfl (by kernel_rfl) (by kernel_rfl) (by kernel_rfl) (fun _ _ _ h => h) (Or.inl ⟨by rfl, ?_⟩) (by assumption) ?_
        rotate_left
        · (intro w hSw; (try dsimp only at hSw); (go_simp <;> with_reducible rfl))
        try simp only [Act.put, List.setIfInBounds_toArray, List.set_cons_zero, List.set_cons_succ]
        refine wpAnyH_take (i := 8) (oi := { dst := some 33, op := Go.Op.extract (Go.Operand.tmp 25) 1, type := 3, pos := "outright.go:45", after := #[{ on := 6, ground := Go.Ground.data }, { on := 11, ground := Go.Ground.gcOnly Go.Departure.lateStores }], guard := none }) (v := ?_) rfl (by kernel_rfl) (by kernel_rfl) (by kernel_rfl) (fun _ _ _ h => h) (Or.inl ⟨by rfl, ?_⟩) (by assumption) ?_
        rotate_left
        · (intro w hSw; (try dsimp only at hSw); (go_simp <;> with_reducible rfl))
        try simp only [Act.put, List.setIfInBounds_toArray, List.set_cons_zero, List.set_cons_succ]
        refine wpAnyH_take (i := 9) (oi := { dst := some 34, op := Go.Op.extract (Go.Operand.tmp 25) 2, type := 24, pos := "outright.go:45", after := #[{ on := 6, ground := Go.Ground.data }, { on := 12, ground := Go.Ground.gcOnly Go.Departure.lateStores }], guard := none }) (v := ?_) rfl (by kernel_rfl) (by kernel_rfl) (by kernel_rfl) (fun _ _ _ h => h) (Or.inl ⟨by rfl, ?_⟩) (by assumption) ?_
        rotate_left
        · (intro w hSw; (try dsimp only at hSw); (go_simp <;> with_reducible rfl))
        try simp only [Act.put, List.setIfInBounds_toArray, List.set_cons_zero, List.set_cons_succ]
        refine wpAnyH_ready (rs := [11]) (by kernel_rfl) (by simp) ?_
        refine AllReadyH.cons (o := { dst := none, op := Go.Op.store 27 (Go.Operand.tmp 11) (Go.Operand.tmp 32), type := 0, pos := "outright.go:45", after := #[{ on := 10, ground := Go.Ground.data }, { on := 7, ground := Go.Ground.data }, { on := 5, ground := Go.Ground.chain }, { on := 0, ground := Go.Ground.phase }, { on := 1, ground := Go.Ground.phase }, { on := 2, ground := Go.Ground.phase }, { on := 3, ground := Go.Ground.phase }, { on := 4, ground := Go.Ground.phase }, { on := 5, ground := Go.Ground.phase }, { on := 6, ground := Go.Ground.phase }, { on := 7, ground := Go.Ground.phase }, { on := 8, ground := Go.Ground.textOnly Go.Departure.lateStores }, { on := 9, ground := Go.Ground.textOnly Go.Departure.lateStores }, { on := 10, ground := Go.Ground.phase }], guard := none }) rfl (fun K hK => ?_) ?_
        rotate_left
        · exact AllReadyH.nil
        go_simp
        refine hK.out _ _ ?_ (fun hHeld => ?_)
        · ((try dsimp only); first | with_reducible exact hJ | with_reducible exact hJ0 | with_reducible exact hJs | with_reducible exact hJa | with_reducible exact hJz | exact hJs)
        clear hK K
        try simp only [Act.put, List.setIfInBounds_toArray, List.set_cons_zero, List.set_cons_succ]
        refine wpAnyH_take (i := 12) (oi := { dst := some 12, op := Go.Op.assign (Go.Operand.tmp 33), type := 3, pos := "outright.go:45", after := #[{ on := 8, ground := Go.Ground.data }, { on := 11, ground := Go.Ground.chain }, { on := 0, ground := Go.Ground.phase }, { on := 1, ground := Go.Ground.phase }, { on := 2, ground := Go.Ground.phase }, { on := 3, ground := Go.Ground.phase }, { on := 4, ground := Go.Ground.phase }, { on := 5, ground := Go.Ground.phase }, { on := 6, ground := Go.Ground.phase }, { on := 7, ground := Go.Ground.phase }, { on := 8, ground := Go.Ground.phase }, { on := 9, ground := Go.Ground.textOnly Go.Departure.lateStores }, { on := 10, ground := Go.Ground.phase }, { on := 11, ground := Go.Ground.phase }], guard := none }) (v := ?_) rfl (by kernel_rfl) (by kernel_rfl) (by kernel_rfl) (fun _ _ _ h => h) (Or.inl ⟨by rfl, ?_⟩) (by assumption) ?_
        rotate_left
        · (intro w hSw; (try dsimp only at hSw); (go_simp <;> with_reducible rfl))
        try simp only [Act.put, List.setIfInBounds_toArray, List.set_cons_zero, List.set_cons_succ]
        refine wpAnyH_take (i := 13) (oi := { dst := some 13, op := Go.Op.assign (Go.Operand.tmp 34), type := 24, pos := "outright.go:45", after := #[{ on := 9, ground := Go.Ground.data }, { on := 12, ground := Go.Ground.chain }, { on := 0, ground := Go.Ground.phase }, { on := 1, ground := Go.Ground.phase }, { on := 2, ground := Go.Ground.phase }, { on := 3, ground := Go.Ground.phase }, { on := 4, ground := Go.Ground.phase }, { on := 5, ground := Go.Ground.phase }, { on := 6, ground := Go.Ground.phase }, { on := 7, ground := Go.Ground.phase }, { on := 8, ground := Go.Ground.phase }, { on := 9, ground := Go.Ground.phase }, { on := 10, ground := Go.Ground.phase }, { on := 11, ground := Go.Ground.phase }, { on := 12, ground := Go.Ground.phase }], guard := none }) (v := ?_) rfl (by kernel_rfl) (by kernel_rfl) (by kernel_rfl) (fun _ _ _ h => h) (Or.inl ⟨by rfl, ?_⟩) (by assumption) ?_
        rotate_left
        · (intro w hSw; (try dsimp only at hSw); (go_simp <;> with_reducible rfl))
        try simp only [Act.put, List.setIfInBounds_toArray, List.set_cons_zero, List.set_cons_succ]
        refine wpAnyH_done (by kernel_rfl) ?_ _
        refine NoPanic.normal ?_
        go_wp2
        go_meet
        case rel => exact ⟨_, _, _, rfl, rfl, rfl, HZ.out⟩
      exact AllReadyH.nil
  case rest =>
    obtain ⟨bx, d, p, rfl, rfl, rfl, HC⟩ := hcut
    have c11 : wc.cell? ⟨bx, 0, none⟩ = some (.pointer (some ⟨d, 0, none⟩)) := by have := cell_row HC.out.1 0; simpa using this
    have Gc := hide (grown_trans Gb.out HC.out.2.1)
    have GcW := hide (grown_trans GW.out HC.out.2.1)
    obtain ⟨⟨s0, s1, s2⟩, s7⟩ := HSh.out wc Gc.out
    have HR := hide (HR1.out.then HC.out.2.1)
    have HFd1 := hide (HFd.out wc _ _ cp1 d p GcW.out HR.out HC.out.2.2.1.bk HC.out.2.2.1.eb)
    clear HHs2 HOf2 HFw2 HKf hn2 HFd HR1
    go_wp2_with fail
    refine HFd1.out.mono ?_
    rintro e w5 ⟨rfl, g5⟩
    obtain ⟨fo', hfo⟩ : ∃ fo', fo' = fiR g fr n := ⟨_, rfl⟩
    obtain ⟨fk, fb, hfv⟩ : ∃ (fk : Int) (fb : Bool), fiV (fiR g fr n) = .tuple #[.int .i64 fk, .bool fb] ∧ (fb = true → fsV g fr (n + 1) = fk) ∧ (fb = false → fk = 0 ∧ fsV g fr (n + 1) = -1) := by
      rw [fsV_fiR]
      cases fiR g fr n with
      | some k => exact ⟨(k : Int), true, rfl, fun _ => rfl, fun e => by cases e⟩
      | none => exact ⟨0, false, rfl, (fun e => by cases e), fun _ => ⟨rfl, rfl⟩⟩
    rw [hfv.1]
    have HFv := hide hfv.2
    clear hfv hfo HFd1
    obtain ⟨w6, hw6⟩ : ∃ w6, w5.alloc (.cells #[.int .i64 (-1)] 3) = w6 := ⟨_, rfl⟩
    obtain ⟨B16, hB16⟩ : ∃ B16, w5.heap.size = B16 := ⟨_, rfl⟩
    have b16 : w6.heap[B16]? = some (.cells [Value.int .i64 (-1)].toArray 3 (0, 0)) := by rw [← hw6, ← hB16]; exact heap_alloc_new w5 _
    have g6 : wc.grownBy w6 none := by rw [← hw6]; exact gn_alloc g5 _
    have HX6 : Hid (wc.heap.size ≤ B16) := by rw [← hB16]; exact g5.size
    obtain ⟨⟨t0, t1, t2⟩, -⟩ := HSh.out w6 (grown_trans Gc.out g6)
    have HSt1 := hide (HStt.out w6 _ _ cp1 (grown_trans GcW.out g6) (HR.out.then g6))
    rw [← hw6] at HSt1 t0 t1 t2
    have HW6 := hide (And.intro hw6 hB16)
    have H6 := hide (And.intro b16 g6)
    clear b16 g6 g5 hw6 hB16 HStt s0 s1 s2 s7 c11
    go_wp2_with fail
    refine HSt1.out.mono ?_
    rw [HW6.out.1]
    rintro e w7 ⟨vf, rfl, ⟨Bs, Bl, so, cap', rfl, hI, hB⟩, g7⟩
    have HI := hide (And.intro hI hB)
    have h6z : w6.heap.size ≤ w7.heap.size := g7.size
    have h16 : B16 < w6.heap.size := row_lt H6.out.1
    have hcz := HX6.out
    have b16' : w7.heap[B16]? = some (.cells [Value.int .i64 (-1)].toArray 3 (0, 0)) := (g7.block _ (row_lt H6.out.1) (by simp)).trans H6.out.1
    have gc7 := grown_trans H6.out.2 g7
    have gw7 := grown_trans GcW.out gc7
    have hbl := row_lt HC.out.1
    have hwz : w.heap.size < wc.heap.size := by
      have h1 := (HSh.out wc Gc.out).2
      unfold World.cell? at h1
      cases hq : wc.heap[w.heap.size]? with
      | none => simp [hq] at h1
      | some o => exact row_lt hq
    have HB7 : Hid (∀ W, Kept w7 W (fun i => i = B16) → W.cell? ⟨w.heap.size, 0, none⟩ = some (.int .i64 fr) ∧ W.cell? ⟨bx, 0, none⟩ = some (.pointer (some ⟨d, 0, none⟩)) ∧ BkAt W p S2 10000) := by
      intro W k
      refine ⟨k.cell (by omega) (HSh.out w7 (grown_trans Gc.out gc7)).2, k.cell (by omega) (gc7.cell (by have := cell_row HC.out.1 0; simpa using this) (by simp)), (HC.out.2.2.1.bk.then gc7).far k (fun i hi e => ?_)⟩
      have := HC.out.2.2.1.bk.lt i hi
      omega
    have H7 := hide (And.intro b16' gw7)
    have HEb := hide HC.out.2.2.1.eb
    clear hI hB g7 HSt1 t0 t1 t2 b16' gc7 gw7 HSh HR H6 Gc GcW HC Gb GW
    go_wp2
    rw [HW6.out.2]
    clear HW6
    refine (wpIn_wide (n := 6)).1 (wpIn_range_F (w := w7) rfl (by decide) (gf := 41) (lb := #[.pointer (some ⟨Bs, 0, none⟩), .pointer (some ⟨Bl, 0, none⟩)]) rfl trivial (enters_of Tryz.func41 (by kernel_rfl) rfl)
      (encs := encS) (R := stR Bs Bl so (hs x l1 false).length) (E := fun x => x.2.own) (V := StV (nS (sa x) (sb x) (sc x)) (hs x l1 false)) (S := fun xs => xs.length = n + 1)
      HI.out.1.lt (fun W hW => HSq.out Bs Bl so cap' W (HI.out.1.grown hW)) (fun _ => rfl) (fun pre x A B h k => StV.keep h k)
      (fun pre O W => FsI w7 W B16 g fr pre O) (fun _ _ _ _ => False)
      (FsI.goes (by omega)) (fun _ _ _ _ _ _ h _ _ => h) ⟨Kept.refl _ _, fun _ e => e.elim, H7.out.1⟩
      ?afr ?assign ?body ?done ?stop)
    case assign =>
      intro l y W K hK
      simp only [encS]
      gi_wp2
      exact hK
    case stop =>
      rintro D cd pre O W hD hX
      exact hX.elim
    case body =>
      rintro l pre y O W hI hV hsz hE hO
      have hyk : y.1 = pre.length := hV.1
      obtain ⟨c7, c11, hbk⟩ := HB7.out W hI.kp
      have c16 : W.cell? ⟨B16, 0, none⟩ = some (.int .i64 (fsV g fr y.1)) := by have := cell_row hI.bx 0; rw [hyk]; simpa using this
      have HCl := hide (HSm.out W y.1 y.2 d p (HSv.out pre y W hV) hV.2.2 hbk HEb.out)
      obtain ⟨PQ, hPQ⟩ : ∃ PQ, PQ = postW (fun i => O i ∨ stR Bs Bl so (hs x l1 false).length i) O (fun pre O W => FsI w7 W B16 g fr pre O) (fun _ _ _ _ => False) (pre ++ [y]) W := ⟨_, rfl⟩
      rw [← hPQ]
      have HPn : Hid (∀ (a' : Act) (W' : World), W.grownBy W' none → fsV g fr (y.1 + 1) = fsV g fr y.1 → PQ .normal a' W') := by
        intro a' W' h1 h2
        rw [hPQ]
        refine ⟨Kept.new h1 _, hI.kp.trans (Kept.new h1 (fun _ => False)) (fun i _ e => e.elim), hI.no, ?_⟩
        rw [List.length_append, List.length_cons, List.length_nil, Nat.zero_add, ← hyk, h2, hyk]
        exact (h1.block _ (row_lt hI.bx) (by simp)).trans hI.bx
      have HPs : Hid (∀ (a' : Act) (W' : World), W.grownBy W' none → fsV g fr (y.1 + 1) = (y.1 : Int) → PQ .normal a' (W'.setCell ⟨B16, 0, none⟩ (.int .i64 (y.1 : Int)))) := by
        intro a' W' h1 h2
        rw [hPQ]
        have ks := kept_setCell W' B16 0 (.int .i64 (y.1 : Int))
        refine ⟨(Kept.new h1 _).trans ks (fun i _ e => ?_), (hI.kp.trans (Kept.new h1 (fun _ => False)) (fun i _ e => e.elim)).trans ks (fun i _ e => e), hI.no, ?_⟩
        · rintro (e2 | e2)
          · have := (hO i e2).1; omega
          · rcases HI.out.2 i e2 with e3 | e3 <;> omega
        · rw [List.length_append, List.length_cons, List.length_nil, Nat.zero_add, ← hyk, h2]
          exact row_setCell ((h1.block _ (row_lt hI.bx) (by simp)).trans hI.bx) 0 _
      have HC16 : Hid (∀ W', W.grownBy W' none → W'.cell? ⟨B16, 0, none⟩ = some (.int .i64 (fsV g fr y.1)) ∧ W'.frozen? ⟨B16, 0, none⟩ = false) := fun W' h1 => ⟨h1.cell c16 (by simp), free_row ((h1.block _ (row_lt hI.bx) (by simp)).trans hI.bx) 0⟩
      have hfs := fsV_succ g fr y.1
      clear hPQ hV hI hE hO hsz hbk hyk
      generalize y.1 = k at *
      generalize y.2.b = yb at *
      generalize fsV g fr (k + 1) = v1 at *
      generalize fsV g fr k = v0 at *
      by_cases hv0 : v0 < 0
      · by_cases hfr : fr ≤ (k : Int)
        · gi_wp2_with fail
          refine ⟨trivial, ?_⟩
          refine (CallsIn.inRound l (callsIn_wide.2 HCl.out)).mono ?_
          rintro e w8 ⟨rfl, g8⟩
          obtain ⟨e16, f16⟩ := HC16.out w8 g8
          cases hg : g k with
          | true =>
            have HF := hide (fun a' => HPs.out a' w8 g8 (by rw [hfs, if_pos ⟨hv0, hfr, hg⟩]))
            clear HPs HPn g8 hg HCl hfs
            gi_wp2
            exact HF.out _
          | false =>
            have HF := hide (fun a' => HPn.out a' w8 g8 (by rw [hfs, if_neg (fun e => by rw [hg] at e; exact absurd e.2.2 (by decide))]))
            clear HPs HPn g8 hg HCl hfs
            gi_wp2
            exact HF.out _
        · have HF := hide (fun a' => HPn.out a' W (grown_refl _ _) (by rw [hfs, if_neg (fun e => hfr e.2.1)]))
          clear HPs HPn HCl hfs
          gi_wp2
          refine ⟨trivial, ?_⟩
          gi_wp2
          exact HF.out _
      · have HF := hide (fun a' => HPn.out a' W (grown_refl _ _) (by rw [hfs, if_neg (fun e => hv0 e.1)]))
        clear HPs HPn HCl hfs
        gi_wp2
        refine ⟨trivial, ?_⟩
        gi_wp2
        exact HF.out _
    case done =>
      rintro D xs O W hD hS hI hOD hK
      have hbx := hI.bx
      rw [hS] at hbx
      have c16 : W.cell? ⟨B16, 0, none⟩ = some (.int .i64 (fsV g fr (n + 1))) := by have := cell_row hbx 0; simpa using this
      have gW := kept_grown H7.out.2 hI.kp (fun i e => by omega)
      have HA := hide (HAw.out W gW)
      have HX := hide (And.intro gW (And.intro hK hD))
      clear hbx gW hI hK hOD hS HB7 HSm HAw HI HSq HSv H7
      generalize fsV g fr (n + 1) = fv at *
      cases fb with
      | true =>
        obtain rfl := HFv.out.1 rfl
        go_wp2_with fail
        refine HA.out.mono ?_
        rintro e w9 ⟨rfl, g9⟩
        have H9 := hide g9
        clear g9 HA
        go_wp2
        obtain ⟨x1, x2, x3⟩ := HX.out
        refine ⟨by simp, .inl ⟨_, _, rfl, run_takeDeferred ((H9.out.block _ (row_lt x2) (by simp)).trans x2), ?_⟩⟩
        refine ⟨_, results_tmp rfl _ _ _, rfl, ?_⟩
        exact kept_grown (grown_trans x1 H9.out) (Kept.of (grownBy_putObj' w9 D (.deferred none)) (S := fun i => i = D) (fun j e _ => (Option.some.inj e).symm)) (fun i e => by omega)
      | false =>
        obtain ⟨rfl, rfl⟩ := HFv.out.2 rfl
        go_wp2_with fail
        refine HA.out.mono ?_
        rintro e w9 ⟨rfl, g9⟩
        have H9 := hide g9
        clear g9 HA
        go_wp2
        obtain ⟨x1, x2, x3⟩ := HX.out
        refine ⟨by simp, .inl ⟨_, _, rfl, run_takeDeferred ((H9.out.block _ (row_lt x2) (by simp)).trans x2), ?_⟩⟩
        refine ⟨_, results_tmp rfl _ _ _, rfl, ?_⟩
        exact kept_grown (grown_trans x1 H9.out) (Kept.of (grownBy_putObj' w9 D (.deferred none)) (S := fun i => i = D) (fun j e _ => (Option.some.inj e).symm)) (fun i e => by omega)
end Go.Proofs.YtinkkocleognbaaGreatDoor
