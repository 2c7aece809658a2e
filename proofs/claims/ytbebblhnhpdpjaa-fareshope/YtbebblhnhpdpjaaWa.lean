/- Fares: the contracts of CopyFare, CopyFares. -/
import Derived.Test.YtbebblhnhpdpjaaVo
import Derived.Test.YtbebblhnhpdpjaaLCopy
import Derived.Laws.Rows
namespace Go.Proofs.Ytbebblhnhpdpjaa
open Go.RowKit
attribute [local go_sem ↓] Go.wp_at_zero Go.wp_at_succ
attribute [local go_sem] run_store_float

theorem copyR_any (ao : Option Addr) (n cap : Nat) (xs : List Nat) (w : World) (hn : xs.length = n) (hat : At w ao xs) (hnil : ao = none → n = 0 ∧ cap = 0) (hb : n ≤ 17592186044416) :
    Calls Try.prog 30 #[.slice ao n cap] w fun e w' => ∃ v, e = .returned v ∧ w'.ownsRow w.heap.size 33 1 v n (fv xs) ∧ w.grownBy w' none := Al.copy_any ao n cap xs w hn hat hnil hb
/-- A row of one's own, where the block that is written is of another kind. -/
theorem own_kept {w w' : World} {base n : Nat} {v : Value} {xs : List Value} {t t' : TypeId} {k : Nat} {row : Option Nat} (h : w.ownsRow base t k v n xs) (hg : w.grownBy w' row) (hr : ∀ b, row = some b → ∃ c fr, w.heap[b]? = some (.cells c t' fr)) (hne : t' ≠ t) : w'.ownsRow base t k v n xs := by
  obtain ⟨hl, h⟩ := h
  refine ⟨hl, ?_⟩
  rcases h with h | ⟨g, cap, cur, rfl, hb, hgc, hx⟩
  · exact Or.inl h
  · refine Or.inr ⟨g, cap, cur, rfl, hb, (hg.block g (row_lt hgc) (fun e => ?_)).trans hgc, hx⟩
    obtain ⟨c, fr, hc⟩ := hr g e.symm
    rw [hgc] at hc
    cases hc
    exact hne rfl
theorem own_form {w : World} {base n : Nat} {v : Value} {xs : List Value} {t : TypeId} {k : Nat} (h : w.ownsRow base t k v n xs) : ∃ ao cap, v = .slice ao n cap := by
  obtain ⟨hl, h⟩ := h
  rcases h with ⟨rfl, rfl⟩ | ⟨g, cap, cur, rfl, -⟩
  · exact ⟨none, 0, rfl⟩
  · exact ⟨_, _, rfl⟩
theorem own_rowblock {w : World} {base n : Nat} {v : Value} {xs : List Value} {t : TypeId} {k : Nat} (h : w.ownsRow base t k v n xs) (b : Nat) (e : v.ownBlock = some b) : base ≤ b ∧ ∃ c fr, w.heap[b]? = some (.cells c t fr) := by
  obtain ⟨hl, h⟩ := h
  rcases h with ⟨rfl, -⟩ | ⟨g, cap, cur, rfl, hb, hgc, hx⟩
  · cases e
  · simp [Value.ownBlock] at e
    subst e
    exact ⟨hb, _, _, hgc⟩
/-- The two boxes of CopyFare, written: what is left. -/
theorem boxes_set {w w2 : World} {p n : Nat} {x v : Value} {xs : List Value} (h0 : w2.heap[w.heap.size]? = some (.cells [Value.float .f64 p, x].toArray 48 (0, 0))) (h1 : w2.heap[w.heap.size + 1]? = some (.cells [Value.float .f64 0, .slice none 0 0].toArray 48 (0, 0))) (hg : w.grownBy w2 none) (ho : w2.ownsRow w.heap.size 33 1 v n xs) :
    (((w2.setCell ⟨w.heap.size, 1, none⟩ v).setCell ⟨w.heap.size + 1, 0, none⟩ (.float .f64 p)).setCell ⟨w.heap.size + 1, 1, none⟩ v).heap[w.heap.size + 1]? = some (.cells #[.float .f64 p, v] 48 (0, 0)) ∧
    (((w2.setCell ⟨w.heap.size, 1, none⟩ v).setCell ⟨w.heap.size + 1, 0, none⟩ (.float .f64 p)).setCell ⟨w.heap.size + 1, 1, none⟩ v).ownsRow w.heap.size 33 1 v n xs ∧
    w.grownBy (((w2.setCell ⟨w.heap.size, 1, none⟩ v).setCell ⟨w.heap.size + 1, 0, none⟩ (.float .f64 p)).setCell ⟨w.heap.size + 1, 1, none⟩ v) none := by
  have g1 := grown_setCell w2 w.heap.size 1 v
  have r1 := (g1.block (w.heap.size + 1) (row_lt h1) (by simp)).trans h1
  have o1 := own_kept ho g1 (fun b e => by cases e; exact ⟨_, _, h0⟩) (by decide)
  have g2 := grown_setCell (w2.setCell ⟨w.heap.size, 1, none⟩ v) (w.heap.size + 1) 0 (.float .f64 p)
  have r2 := row_setCell r1 0 (.float .f64 p)
  have o2 := own_kept o1 g2 (fun b e => by cases e; exact ⟨_, _, r1⟩) (by decide)
  have g3 := grown_setCell ((w2.setCell ⟨w.heap.size, 1, none⟩ v).setCell ⟨w.heap.size + 1, 0, none⟩ (.float .f64 p)) (w.heap.size + 1) 1 v
  have r3 := row_setCell r2 1 v
  have o3 := own_kept o2 g3 (fun b e => by cases e; exact ⟨_, _, r2⟩) (by decide)
  refine ⟨r3, o3, ?_⟩
  refine grown_then (grown_then (grown_then hg g1 ?_) g2 ?_) g3 ?_
  all_goals
    intro j e
    cases e
    exact Or.inl (by omega)

set_option maxHeartbeats 1000000 in
theorem copyFare_any (p : Nat) (ao : Option Addr) (n c : Nat) (xs : List Nat) (w : World) (hn : xs.length = n) (hat : At w ao xs) (hnil : ao = none → n = 0 ∧ c = 0) (hb : n ≤ 17592186044416) :
    Calls Try.prog 51 #[.agg #[.float .f64 p, .slice ao n c]] w fun r w' => ∃ v, r = .returned (.agg #[.float .f64 p, v]) ∧ w'.ownsRow w.heap.size 33 1 v n (fv xs) ∧ w.grownBy w' none := by
  have ga := grown_trans (World.grownBy_alloc w (.cells #[.float .f64 p, .slice ao n c] 48) none) (World.grownBy_alloc _ (.cells #[.float .f64 0, .slice none 0 0] 48) none)
  have HC := hide (copyR_any ao n c xs _ hn (hat.kept ga (fun _ _ e => by cases e)) hnil hb)
  have h0 : ((w.alloc (.cells #[.float .f64 p, .slice ao n c] 48)).alloc (.cells #[.float .f64 0, .slice none 0 0] 48)).heap[w.heap.size]? = some (.cells [Value.float .f64 p, .slice ao n c].toArray 48 (0, 0)) := ((World.grownBy_alloc (w.alloc (.cells #[.float .f64 p, .slice ao n c] 48)) (.cells #[.float .f64 0, .slice none 0 0] 48) none).block w.heap.size (by simp) (by simp)).trans (heap_alloc_new w _)
  have h1 : ((w.alloc (.cells #[.float .f64 p, .slice ao n c] 48)).alloc (.cells #[.float .f64 0, .slice none 0 0] 48)).heap[w.heap.size + 1]? = some (.cells [Value.float .f64 0, .slice none 0 0].toArray 48 (0, 0)) := by
    have h := heap_alloc_new (w.alloc (.cells #[.float .f64 p, .slice ao n c] 48)) (.cells #[.float .f64 0, .slice none 0 0] 48)
    rw [World.size_alloc] at h
    exact h
  have HR := hide (And.intro ga (And.intro h0 h1))
  clear ga h0 h1 hn hat hnil
  go_enter Try.func51, Try.ntmps51
  go_wp2_with fail
  refine HC.out.mono ?_
  rintro r w2 ⟨v, rfl, ho, hg⟩
  obtain ⟨ga, h0, h1⟩ := HR.out
  have k0 := (hg.block _ (row_lt h0) (by simp)).trans h0
  have k1 := (hg.block _ (row_lt h1) (by simp)).trans h1
  have gw := grown_trans ga hg
  have ho2 : w2.ownsRow w.heap.size 33 1 v n (fv xs) := own_low ho (by simp; omega)
  have HX := hide (boxes_set k0 k1 gw ho2)
  obtain ⟨vo, vc, hv⟩ := own_form ho
  subst hv
  have c0 : w2.cell? ⟨w.heap.size, 0, none⟩ = some (.float .f64 p) := cell_row k0 0
  have c1 : w2.cell? ⟨w.heap.size, 1, none⟩ = some (.slice ao n c) := cell_row k0 1
  have d0 : w2.cell? ⟨w.heap.size + 1, 0, none⟩ = some (.float .f64 0) := cell_row k1 0
  have d1 : w2.cell? ⟨w.heap.size + 1, 1, none⟩ = some (.slice none 0 0) := cell_row k1 1
  have f1 : w2.frozen? ⟨w.heap.size, 1, none⟩ = false := free_row k0 1
  have e0 : w2.frozen? ⟨w.heap.size + 1, 0, none⟩ = false := free_row k1 0
  have e1 : w2.frozen? ⟨w.heap.size + 1, 1, none⟩ = false := free_row k1 1
  clear ga h0 h1 k0 k1 gw ho2 ho hg HR HC
  go_wp2
  refine bodyPost_ret (results_cell_row rfl _ _ (w.heap.size + 1) 48 #[.float .f64 p, .slice vo n vc] (0, 0) _ rfl HX.out.1 Try.underlying48 rfl (by kernel_rfl)) rfl ⟨_, rfl, HX.out.2.1, HX.out.2.2⟩

/-- The cells of fares and their slices. -/
def fc (l : List (Fa × Value)) : List Value := l.flatMap fun e => [.float .f64 e.1.1, e.2]
theorem fc_append (a b : List (Fa × Value)) : fc (a ++ b) = fc a ++ fc b := by simp [fc]
theorem fc_length (l : List (Fa × Value)) : (fc l).length = l.length * 2 := by
  induction l with
  | nil => rfl
  | cons e l ih => show ([Value.float .f64 e.1.1, e.2] ++ fc l).length = _; simp [ih]; omega
theorem fc_get (l : List (Fa × Value)) : ∀ (j : Nat) (e : Fa × Value), l[j]? = some e → (fc l)[j * 2]? = some (.float .f64 e.1.1) ∧ (fc l)[j * 2 + 1]? = some e.2 := by
  induction l with
  | nil => intro j e h; simp at h
  | cons d l ih =>
    intro j e h
    have hc : fc (d :: l) = Value.float .f64 d.1.1 :: d.2 :: fc l := rfl
    cases j with
    | zero => simp at h; subst h; rw [hc]; exact ⟨rfl, rfl⟩
    | succ j =>
      have := ih j e (by simpa using h)
      rw [hc, show (j + 1) * 2 = j * 2 + 1 + 1 by omega]
      simpa using this
structure CfS (B : Nat) (w : World) (o : Value) (pre : List (Fa × Value)) : Prop where
  row : w.ownsRow B 48 2 o pre.length (fc pre)
  el : ∀ e ∈ pre, e.1.2.length ≤ 17592186044416 ∧ w.ownsRow B 33 1 e.2 e.1.2.length (fv e.1.2)
theorem CfS.nil (B : Nat) (w : World) : CfS B w (.slice none 0 0) [] := ⟨World.ownsRow_nil _ _ _ _, fun e he => by simp at he⟩
theorem own_grownT {w w' : World} {base n : Nat} {v : Value} {xs : List Value} {t : TypeId} {k : Nat} (h : w.ownsRow base t k v n xs) (hg : w.grownBy w' none) : w'.ownsRow base t k v n xs := by
  obtain ⟨hl, h⟩ := h
  refine ⟨hl, ?_⟩
  rcases h with h | ⟨g, cap, cur, rfl, hb, hgc, hr⟩
  · exact Or.inl h
  · exact Or.inr ⟨g, cap, cur, rfl, hb, (hg.block g (row_lt hgc) (by simp)).trans hgc, hr⟩
theorem CfS.grown {B : Nat} {w w' : World} {o : Value} {pre : List (Fa × Value)} (h : CfS B w o pre) (hg : w.grownBy w' none) : CfS B w' o pre :=
  ⟨own_grownT h.row hg, fun e he => ⟨(h.el e he).1, own_grownT (h.el e he).2 hg⟩⟩
theorem own_lowT {w : World} {base base' n : Nat} {v : Value} {xs : List Value} {t : TypeId} {k : Nat} (h : w.ownsRow base t k v n xs) (hb : base' ≤ base) : w.ownsRow base' t k v n xs := by
  obtain ⟨hl, h⟩ := h
  refine ⟨hl, ?_⟩
  rcases h with h | ⟨g, cap, cur, rfl, hb2, hr⟩
  · exact Or.inl h
  · exact Or.inr ⟨g, cap, cur, rfl, Nat.le_trans hb hb2, hr⟩
theorem CfS.push {B : Nat} {w w' : World} {o o' x : Value} {pre : List (Fa × Value)} {c : Fa} (h : CfS B w o pre) (hx : c.2.length ≤ 17592186044416 ∧ w.ownsRow B 33 1 x c.2.length (fv c.2)) (ho : w'.ownsRow B 48 2 o' (pre.length + 1) (fc pre ++ [.float .f64 c.1, x])) (hg : w.grownBy w' o.ownBlock) : CfS B w' o' (pre ++ [(c, x)]) := by
  have hr := fun b e => (own_rowblock h.row b e).2
  refine ⟨by rw [fc_append, List.length_append]; exact ho, fun e he => ?_⟩
  rcases List.mem_append.1 he with he | he
  · exact ⟨(h.el e he).1, own_kept (h.el e he).2 hg hr (by decide)⟩
  · simp at he; subst he
    exact ⟨hx.1, own_kept hx.2 hg hr (by decide)⟩
theorem CfS.fares {B : Nat} {w : World} {o : Value} {pre : List (Fa × Value)} (h : CfS B w o pre) : ∃ ao cap, o = .slice ao pre.length cap ∧ FasAt w ao (pre.map Prod.fst) ∧ pre.length ≤ cap ∧ (ao = none → pre.length = 0 ∧ cap = 0) := by
  obtain ⟨hl, hr⟩ := h.row
  rcases hr with ⟨rfl, h0⟩ | ⟨g, cap, cur, rfl, hb, hgc, hn, hm, hs, ht⟩
  · have : pre = [] := List.eq_nil_of_length_eq_zero h0
    subst this
    exact ⟨none, 0, rfl, fun j c hj => by simp at hj, Nat.le_refl _, fun _ => ⟨rfl, rfl⟩⟩
  · refine ⟨some ⟨g, 0, none⟩, cap, rfl, fun j c hj => ?_, hn, fun e => by cases e⟩
    rw [List.getElem?_map] at hj
    obtain ⟨e, he, rfl⟩ := Option.map_eq_some_iff.1 hj
    obtain ⟨f1, f2⟩ := fc_get pre j e he
    have hjl : j < pre.length := (List.getElem?_eq_some_iff.1 he).1
    obtain ⟨e1, e2⟩ := h.el e (List.mem_of_getElem? he)
    obtain ⟨bo, bc, hv, -, k2, k3, k4, k5, -⟩ := own_at e2
    have hcell : ∀ i v, i < pre.length * 2 → (fc pre)[i]? = some v → w.cell? ⟨g, i, none⟩ = some v := by
      intro i v hi hv
      rw [cell_of_row w g i cur 48 (0, 0) hgc]
      rw [← ht, List.getElem?_take, if_pos hi] at hv
      simpa using hv
    refine ⟨g, 0, bo, bc, rfl, ⟨?_, ?_, ⟨k4, k5, by omega, k2⟩⟩⟩
    · rw [Nat.zero_add]; exact hcell _ _ (by omega) f1
    · rw [Nat.zero_add]; rw [hv] at f2; exact hcell _ _ (by omega) f2
theorem Try.info48 : (Try.prog.info? 48).map (fun i => (i.zero, i.size, i.bytes)) = some (some (.agg #[.float .f64 0, .slice none 0 0]), 2, 32) := by kernel_rfl
theorem cell2_new (w : World) (u v : Value) (t : TypeId) : ∀ j x, [u, v][j]? = some x → (w.alloc (.cells #[u, v] t)).cell? ((⟨w.heap.size, 0, none⟩ : Addr).add j) = some x := by
  intro j x hx
  have h : (w.alloc (.cells #[u, v] t)).heap[w.heap.size]? = some (.cells [u, v].toArray t (0, 0)) := heap_alloc_new w _
  rw [Addr.add_lit, Nat.zero_add, cell_row h]; exact hx
/-- Chances of a size that a row of their own may have. -/
def Sz (l : List Fa) : Prop := ∀ (j : Nat) (c : Fa), l[j]? = some c → c.2.length ≤ 17592186044416

set_option maxRecDepth 100000 in
set_option maxHeartbeats 2000000 in
theorem copyFares_any (ao : Option Addr) (cap n : Nat) (l : List Fa) (w : World) (hn : n = l.length) (hb : FasAt w ao l) (hs : n ≤ 4398046511104) (hz : Sz l) :
    Calls Try.prog 27 #[.slice ao n cap] w fun r w' => ∃ o pre, r = .returned o ∧ pre.map Prod.fst = l ∧ CfS w.heap.size w' o pre ∧ w.grownBy w' none := by
  obtain ⟨i0, hi, hz0, hz1, hz2⟩ := info_parts Try.info48
  have HI := hide (And.intro hi (And.intro hz0 (And.intro hz1 hz2)))
  have HB := hide hb
  have HN := hide hn
  have HZ := hide hz
  clear hi hz0 hz1 hz2 hn hb hz
  go_enter Try.func27, Try.ntmps27
  go_wp2
  go_loopg [3, 4] n (fun q o i wr => ∃ (j : Nat) (pre : List (Fa × Value)), q + j = n ∧ i = .int .i64 j ∧ Hid (pre.length = j ∧ pre.map Prod.fst = l.take j ∧ CfS w.heap.size wr o pre ∧ w.grownBy wr none))
  case atStart => exact ⟨0, [], by omega, rfl, hide ⟨rfl, rfl, CfS.nil _ _, grown_refl _ _⟩⟩
  case round =>
    obtain ⟨j, pre, hqj, rfl, HR⟩ := hrel
    obtain ⟨po, pc, hpv⟩ := own_form HR.out.2.2.1.row
    by_cases hk : 0 < gk
    · have hj : (j : Int) < (n : Int) := by omega
      obtain ⟨c, hc⟩ : ∃ c, l[j]? = some c := ⟨_, List.getElem?_eq_getElem (by have := HN.out; omega)⟩
      obtain ⟨p, cs⟩ := c
      obtain ⟨b, off, bo, bc, rfl, hfa⟩ := (HB.out.grown HR.out.2.2.2) j (p, cs) hc
      have c0 := hfa.c0
      have c1 := hfa.c1
      dsimp only at c0 c1
      have hzc : cs.length ≤ 17592186044416 := HZ.out j _ hc
      have HP := hide (copyFare_any p bo cs.length bc cs wr rfl hfa.sin.at_ hfa.sin.nil hzc)
      have HT : Hid (l.take (j + 1) = l.take j ++ [(p, cs)]) := hide (take_snoc hc)
      obtain ⟨m, hm⟩ : ∃ m, m = cs.length := ⟨_, rfl⟩
      rw [← hm] at c1 HP hzc
      have HM := hide hm
      have HZc := hide hzc
      clear hfa hc hm hzc
      subst hpv
      go_wp2_with fail
      refine HP.out.mono ?_
      rintro r w2 ⟨nv, rfl, ho, hg⟩
      obtain ⟨no, nc, hnv⟩ := own_form ho
      subst hnv
      have HQ := hide (And.intro ho hg)
      clear ho hg HP c0 c1
      have ga := World.grownBy_alloc w2 (.cells #[.float .f64 p, .slice no m nc] 48) none
      have gb := World.grownBy_alloc (w2.alloc (.cells #[.float .f64 p, .slice no m nc] 48)) (.cells #[.float .f64 p, .slice no m nc] 48) none
      have HG := hide (grown_trans ga gb)
      clear ga gb
      have hpl : Hid (pre.length = j) := HR.out.1
      go_wp2_with (at_builtin; refine wpList_append_own _ rfl (.tmp 17) (.tmp 19) 22 rfl w.heap.size 48 i0 (.agg #[.float .f64 0, .slice none 0 0]) 2 32 Try.underlying22 HI.out.1 HI.out.2.1 HI.out.2.2.1 HI.out.2.2.2 rfl (by decide) (.slice po pre.length pc) pre.length (fc pre) rfl (own_grownT HR.out.2.2.1.row (grown_trans HQ.out.2 HG.out)) ⟨w2.heap.size + 1, 0, none⟩ 1 1 [.float .f64 p, .slice no m nc] rfl rfl ?_ (by simp [Value.oneCell']) (by unfold maxLen; have := hpl.out; omega) (by have := hpl.out; omega) ?_ ?_)
      · have h := cell2_new (w2.alloc (.cells #[.float .f64 p, .slice no m nc] 48)) (.float .f64 p) (.slice no m nc) 48
        rw [World.size_alloc] at h
        exact h
      · have h1 := HR.out.2.2.2.size; have h2 := HQ.out.2.size; simp; omega
      · intro v' w3 ho3 hg3 _
        have hF := (HR.out.2.2.1.grown HQ.out.2).grown HG.out
        have hx2 : (p, cs).2.length ≤ 17592186044416 := by rw [← HM.out]; exact HZc.out
        have hx := own_grownT (own_lowT HQ.out.1 HR.out.2.2.2.size) HG.out
        have hmm : (p, cs).2.length = m := HM.out.symm
        have hp := hF.push (c := (p, cs)) (x := .slice no m nc) ⟨hx2, by rw [hmm]; exact hx⟩ (by exact ho3) hg3
        have hgw : w.grownBy w3 none := grown_then (grown_trans (grown_trans HR.out.2.2.2 HQ.out.2) HG.out) hg3 (fun k e => Or.inl (own_rowblock HR.out.2.2.1.row k e).1)
        have H3 := hide (And.intro hp hgw)
        obtain ⟨ao3, c3, hv3⟩ := own_form ho3
        subst hv3
        clear hF hx hx2 hmm hp hgw ho3 hg3
        go_wp2
        go_roundg (gk - 1)
        case measure => omega
        case rel => exact ⟨j + 1, _, by omega, by go_num, hide ⟨by rw [List.length_append]; simp [hpl.out], by rw [List.map_append, HR.out.2.1, HT.out]; rfl, H3.out.1, H3.out.2⟩⟩
    · obtain rfl : j = n := by omega
      have hj : ¬ (j : Int) < (j : Int) := by omega
      subst hpv
      have HE : Hid (l.take j = l) := List.take_of_length_le (Nat.le_of_eq HN.out.symm)
      go_wp2
      go_ret
      exact ⟨_, rfl, pre, HR.out.2.1.trans HE.out, HR.out.2.2.1, HR.out.2.2.2⟩
end Go.Proofs.Ytbebblhnhpdpjaa
