/- Fares: the contract of add. -/
import Derived.Test.YtbebblhnhpdpjaaVe
namespace Go.Proofs.Ytbebblhnhpdpjaa
open Go.RowKit
attribute [local go_sem ↓] Go.wp_at_zero Go.wp_at_succ
attribute [local go_sem] run_store_float

/-- The best of those ahead of the k-th. -/
def bb (q : Nat) (ws : List Nat) (x : Nat) : Nat → Nat
  | 0 => 0
  | k + 1 => bt q ws x k
theorem bb_take {q : Nat} {ws : List Nat} {x k : Nat} (h : k ≤ x) : max (bb q ws x k) (cd q k (ws.getD (x - k) 0)) = bt q ws x k := by
  cases k with
  | zero => rw [cd_zero]; exact Nat.max_eq_right (Nat.zero_le _)
  | succ k => show max (bt q ws x k) _ = _; conv => { rhs; unfold bt }; rw [if_pos h]
theorem bb_leave {q : Nat} {ws : List Nat} {x k : Nat} (h : ¬ k ≤ x) : bb q ws x k = bt q ws x k := by
  cases k with
  | zero => omega
  | succ k => show bt q ws x k = _; conv => { rhs; unfold bt }; rw [if_neg h]
theorem bb_bd {q n : Nat} {w : List Nat} (hq : val q ≤ pw 1114) (hn : 48 ≤ n) (hw : Bd n w) (x k : Nat) (hk : k ≤ 256) : val (bb q w x k) ≤ pw (1074 + (n + 1)) := by
  cases k with
  | zero => exact Nat.zero_le _
  | succ k => exact bt_bd hq hn hw x k (by omega)
/-- How far the sums are: those ahead of x are whole, that of x has k. -/
structure Pg (q : Nat) (ws cs : List Nat) (n x k : Nat) (L : List Nat) : Prop where
  len : L.length = n
  at_ : ∀ i, i < n → L.getD i 0 = if i < x then su q ws cs i cs.length else if i = x then su q ws cs x k else 0
theorem getD_set (L : List Nat) (j u i : Nat) (hj : j < L.length) : (L.set j u).getD i 0 = if i = j then u else L.getD i 0 := by
  rw [List.getD_eq_getElem?_getD, List.getD_eq_getElem?_getD, List.getElem?_set]
  by_cases h : i = j
  · subst h; simp [hj]
  · rw [if_neg (fun e => h e.symm), if_neg h]
theorem Pg.start (q : Nat) (ws cs : List Nat) (n : Nat) : Pg q ws cs n 0 0 (List.replicate n 0) := by
  refine ⟨by simp, fun i hi => ?_⟩
  rw [List.getD_eq_getElem?_getD, List.getElem?_replicate, if_pos hi, if_neg (by omega)]
  split <;> rfl
theorem Pg.step {q : Nat} {ws cs : List Nat} {n x k : Nat} {L : List Nat} (h : Pg q ws cs n x k L) (hx : x < n) : Pg q ws cs n x (k + 1) (L.set x (su q ws cs x (k + 1))) := by
  refine ⟨by rw [List.length_set]; exact h.len, fun i hi => ?_⟩
  rw [getD_set _ _ _ _ (by rw [h.len]; exact hx), h.at_ i hi]
  by_cases h1 : i = x
  · subst h1; simp
  · rw [if_neg h1, if_neg h1, if_neg h1]
theorem Pg.next {q : Nat} {ws cs : List Nat} {n x : Nat} {L : List Nat} (h : Pg q ws cs n x cs.length L) : Pg q ws cs n (x + 1) 0 L := by
  refine ⟨h.len, fun i hi => ?_⟩
  rw [h.at_ i hi]
  by_cases h1 : i < x
  · rw [if_pos h1, if_pos (by omega)]
  · by_cases h2 : i = x
    · subst h2; rw [if_neg h1, if_pos rfl, if_pos (by omega)]
    · rw [if_neg h1, if_neg h2, if_neg (by omega)]
      split <;> rfl
theorem Pg.cell {q : Nat} {ws cs : List Nat} {n x k : Nat} {L : List Nat} (h : Pg q ws cs n x k L) (hx : x < n) : L.getD x 0 = su q ws cs x k := by
  rw [h.at_ x hx, if_neg (by omega), if_pos rfl]
theorem ext_getD {L M : List Nat} (h : L.length = M.length) (k : ∀ i, i < L.length → L.getD i 0 = M.getD i 0) : L = M := by
  apply List.ext_getElem h
  intro i h1 h2
  have := k i h1
  rwa [List.getD_eq_getElem?_getD, List.getD_eq_getElem?_getD, List.getElem?_eq_getElem h1, List.getElem?_eq_getElem h2] at this
theorem Pg.done {q : Nat} {ws cs : List Nat} {n : Nat} {L : List Nat} (h : Pg q ws cs n n 0 L) (hl : ws.length = n) : L = nv q cs ws := by
  refine ext_getD (by rw [nv_length, h.len, hl]) fun i hi => ?_
  rw [h.len] at hi
  rw [h.at_ i hi, if_pos hi, nv_get _ _ _ _ (by omega)]

/-- All other blocks stay. -/
structure Oth (w w' : World) (v b1 b2 : Nat) : Prop where
  size : w.heap.size ≤ w'.heap.size
  at_ : ∀ k, k < w.heap.size → k ≠ v → k ≠ b1 → k ≠ b2 → w'.heap[k]? = w.heap[k]?
theorem Oth.then {w w' w2 : World} {v b1 b2 : Nat} {row : Option Nat} (h : Oth w w' v b1 b2) (hg : w'.grownBy w2 row) (hr : row = none ∨ row = some v ∨ row = some b1 ∨ row = some b2) : Oth w w2 v b1 b2 := by
  refine ⟨Nat.le_trans h.size hg.size, fun k hk n0 n1 n2 => ?_⟩
  rw [hg.block k (Nat.lt_of_lt_of_le hk h.size) ?_, h.at_ k hk n0 n1 n2]
  rintro e
  rcases hr with rfl | rfl | rfl | rfl <;> simp at e <;> omega
structure AdS (wS W0 w : World) (v b1 b2 bx n : Nat) (ws L : List Nat) (p : Nat) (bo : Option Addr) (bc m : Nat) : Prop where
  own : Own W0 w v b1 b2 n ws L
  x0 : w.cell? ⟨bx, 0, none⟩ = some (.float .f64 p)
  x1 : w.cell? ⟨bx, 1, none⟩ = some (.slice bo m bc)
  nb : bx ≠ b2
  oth : Oth wS w v b1 b2
theorem Own.set {W0 w : World} {v b1 b2 n : Nat} {ws sp : List Nat} (h : Own W0 w v b1 b2 n ws sp) (j u : Nat) : Own W0 (w.setCell ⟨b2, j, none⟩ (.float .f64 u)) v b1 b2 n ws (sp.set j u) :=
  ⟨h.at_.set j u, grown_then h.grown (grown_setCell w b2 j _) (fun i e => .inl (by have := h.lo2; simp at e; omega)), h.lo0, h.lo1, h.lo2⟩
theorem AdS.set {wS W0 w : World} {v b1 b2 bx n : Nat} {ws L : List Nat} {p : Nat} {bo : Option Addr} {bc m : Nat} (h : AdS wS W0 w v b1 b2 bx n ws L p bo bc m) (j u : Nat) : AdS wS W0 (w.setCell ⟨b2, j, none⟩ (.float .f64 u)) v b1 b2 bx n ws (L.set j u) p bo bc m := by
  have hg := grown_setCell w b2 j (.float .f64 u)
  exact ⟨h.own.set j u, hg.cell h.x0 (fun e => h.nb (by simpa using e)), hg.cell h.x1 (fun e => h.nb (by simpa using e)), h.nb, h.oth.then hg (.inr (.inr (.inr rfl)))⟩
theorem AdS.drewN {wS W0 w : World} {v b1 b2 bx n : Nat} {ws L : List Nat} {p : Nat} {bo : Option Addr} {bc m : Nat} (h : AdS wS W0 w v b1 b2 bx n ws L p bo bc m) (q : Nat) : AdS wS W0 (w.drewN q) v b1 b2 bx n ws L p bo bc m :=
  have hg : w.grownBy (w.drewN q) none := ⟨rfl, rfl, rfl, Nat.le_refl _, fun _ _ _ => rfl⟩
  ⟨h.own.then hg, h.x0, h.x1, h.nb, h.oth.then hg (.inl rfl)⟩
theorem Own.swap {W0 w : World} {v b1 b2 n : Nat} {ws sp : List Nat} (h : Own W0 w v b1 b2 n ws sp) :
    Own W0 ((w.setCell ⟨v, 0, none⟩ (.slice (some ⟨b2, 0, none⟩) n n)).setCell ⟨v, 1, none⟩ (.slice (some ⟨b1, 0, none⟩) n n)) v b2 b1 n sp ws := by
  have g1 := grown_setCell w v 0 (.slice (some ⟨b2, 0, none⟩) n n)
  have g2 := grown_setCell (w.setCell ⟨v, 0, none⟩ (.slice (some ⟨b2, 0, none⟩) n n)) v 1 (.slice (some ⟨b1, 0, none⟩) n n)
  have hh := row_setCell (row_setCell h.at_.pair 0 (.slice (some ⟨b2, 0, none⟩) n n)) 1 (.slice (some ⟨b1, 0, none⟩) n n)
  have n1 : ¬ some v = some b1 := fun e => h.at_.d1 (by simpa using e)
  have n2 : ¬ some v = some b2 := fun e => h.at_.d2 (by simpa using e)
  refine ⟨⟨hh, (h.at_.h2.kept g1 n2).kept g2 n2, (h.at_.h1.kept g1 n1).kept g2 n1, h.at_.l2, h.at_.l1, h.at_.d2, h.at_.d1, fun e => h.at_.d3 e.symm⟩, ?_, h.lo0, h.lo2, h.lo1⟩
  exact grown_then (grown_then h.grown g1 (fun i e => .inl (by have := h.lo0; simp at e; omega))) g2 (fun i e => .inl (by have := h.lo0; simp at e; omega))
theorem free_pair {w : World} {v b1 b2 n : Nat} {ws sp : List Nat} (h : VsAt w v b1 b2 n ws sp) (j : Nat) : w.frozen? ⟨v, j, none⟩ = false := free_row h.pair j

set_option maxRecDepth 20000 in
set_option maxHeartbeats 4000000 in
theorem add_any (W0 : World) (v b1 b2 n e : Nat) (ws sp : List Nat) (p : Nat) (bo : Option Addr) (bc : Nat) (cs : List Nat) (w : World) (hO : Own W0 w v b1 b2 n ws sp) (hn : 1 ≤ n ∧ n ≤ 1025)
    (hB : BIn W0 bo bc cs) (hG : Gd (p, cs)) (he : 48 ≤ e ∧ e ≤ 780) (hw : Bd e ws) :
    Calls Try.prog 42 #[.pointer (some ⟨v, 0, none⟩), .agg #[.float .f64 p, .slice bo cs.length bc]] w fun e' w' => e' = .returned (.tuple #[]) ∧ Own W0 w' v b2 b1 n (nv (ru p) cs ws) ws ∧ Oth w w' v b1 b2 := by
  have HGd := hide hG
  have HB := hide hB
  have HE := hide he
  have HW := hide hw
  obtain ⟨hn1, hn2⟩ := hn
  obtain ⟨m, hm⟩ : ∃ m, m = cs.length := ⟨_, rfl⟩
  have HM := hide hm
  have hm2 : m ≤ 256 := by rw [hm]; exact (chOk_parts hG.ch).1.2
  rw [← hm]
  obtain ⟨x0, x1, gx⟩ := box_fa w (.float .f64 p) (.slice bo m bc)
  have hOx := hO.then gx
  have hlt2 := hO.at_.h2.lt
  obtain ⟨w2, hclr, hz, hg2⟩ := run_clear hOx.at_.h2 hOx.at_.l2 (by omega)
  have HX := hide x0
  have hxb : w.heap.size ≠ b2 := by omega
  have A2 : Hid (AdS w W0 w2 v b1 b2 w.heap.size n ws (List.replicate n 0) p bo bc m) := by
    have k1 : ¬ some b2 = some v := fun e => hO.at_.d2 (by simpa using e.symm)
    have k2 : ¬ some b2 = some b1 := fun e => hO.at_.d3 (by simpa using e.symm)
    refine ⟨⟨⟨?_, hOx.at_.h1.kept hg2 k2, hz, hOx.at_.l1, by simp, hO.at_.d1, hO.at_.d2, hO.at_.d3⟩, grown_then hOx.grown hg2 (fun i e => .inl (by have := hO.lo2; simp at e; omega)), hO.lo0, hO.lo1, hO.lo2⟩, hg2.cell x0 (fun e => hxb (by simpa using e)), hg2.cell x1 (fun e => hxb (by simpa using e)), hxb, ((Oth.mk (Nat.le_refl _) (fun _ _ _ _ _ => rfl) : Oth w w v b1 b2).then gx (.inl rfl)).then hg2 (.inr (.inr (.inr rfl)))⟩
    rw [hg2.block v (row_lt hOx.at_.pair) (fun e => k1 e.symm)]; exact hOx.at_.pair
  have hsp0 := hOx.at_.spare
  clear hO hB hG he hw hm x0 x1 gx hOx hlt2 hz hg2 hxb HX
  go_enter Try.func42, Try.ntmps42
  go_wp2_with (simp only [hclr])
  generalize w.heap.size = bx at *
  clear hclr hsp0
  go_loopg [16] n (fun k i wr => ∃ x : Nat, k + x = n ∧ i = .int .i64 (x : Int) ∧ Hid (∃ L, AdS w W0 wr v b1 b2 bx n ws L p bo bc m ∧ Pg (ru p) ws cs n x 0 L))
  case atStart => exact ⟨0, by omega, rfl, hide ⟨_, A2.out, Pg.start _ _ _ _⟩⟩
  case round =>
    clear A2
    obtain ⟨x, hkx, rfl, HA⟩ := hrel
    by_cases hgo : 0 < gk
    · have hx : x < n := by omega
      have hx2 : (x : Int) < (n : Int) := by omega
      obtain ⟨L0, ha0, hp0⟩ := HA.out
      have HA0 := hide (And.intro ha0 hp0)
      have x1 := ha0.x1
      clear HA ha0 hp0
      generalize hog : gk = og at *
      go_wp2
      clear x1
      go_loopg [6, 22] m (fun k b i wr => ∃ j : Nat, k + j = m ∧ i = .int .i64 (j : Int) ∧ b = .float .f64 (bb (ru p) ws x j) ∧ Hid (∃ L, AdS w W0 wr v b1 b2 bx n ws L p bo bc m ∧ Pg (ru p) ws cs n x j L))
      case atStart => exact ⟨0, by omega, rfl, rfl, hide ⟨_, HA0.out⟩⟩
      case round =>
        clear HA0
        obtain ⟨j, hkj, rfl, rfl, HA⟩ := hrel
        obtain ⟨L, hA, hP⟩ := HA.out
        by_cases hgj : 0 < gk
        · have hj : j < m := by omega
          have hj2 : (j : Int) < (m : Int) := by omega
          have hjc : j < cs.length := by rw [← HM.out]; exact hj
          obtain ⟨a, rfl, hc⟩ := (HB.out.grown hA.own.grown).at_ j (cs.getD j 0) (by rw [List.getD_eq_getElem?_getD, List.getElem?_eq_getElem hjc]; rfl)
          have hlik := (chOk_parts HGd.out.ch).2 j hjc
          have hpr := HGd.out.pr
          have hbt := bt_bd hpr.le HE.out.1 HW.out x j (by omega)
          have hcl : ∀ k, val (ru (cs.getD k 0)) ≤ pw 1074 := ch_le HGd.out.ch
          obtain ⟨u, hu1, hu2⟩ := tn_run (s := su (ru p) ws cs x j) (n := e + 1) hlik hbt (by have := HE.out; omega) (bd_fin (su_bd2 hpr.le HE.out.1 HW.out hcl x j (by omega)) (by have := HE.out; omega)) (bd_fin (n := e + 9) (su_bd2 hpr.le HE.out.1 HW.out hcl x (j + 1) (by omega)) (by have := HE.out; omega))
          have hsc := hP.cell hx
          have hc2 := hA.own.at_.h2.cell (j := x) (by rw [hP.len]; exact hx)
          rw [hsc] at hc2
          have hf2 := hA.own.at_.h2.free x
          have HN := hide (And.intro (hA.set x (su (ru p) ws cs x (j + 1))) (hP.step hx))
          have hsu : ad (su (ru p) ws cs x j) (tn (cs.getD j 0) (bt (ru p) ws x j)) = su (ru p) ws cs x (j + 1) := rfl
          rw [hsu] at hu2
          have hm1 := run_mul hu1
          have hm2' := run_add hu2
          by_cases hjx : j ≤ x
          · have htk := bb_take (q := ru p) (ws := ws) hjx
            obtain ⟨r, hr1, hr2⟩ := cd_run (k := j) (by omega) hpr HE.out.1 (by have := HE.out; omega) (HW.out (x - j))
            have hmx := run_max (bd_fin (bb_bd hpr.le HE.out.1 HW.out x j (by omega)) (by have := HE.out; omega)) (bd_fin (cd_bd (u := j) (by omega) hpr.le HE.out.1 (HW.out (x - j))) (by have := HE.out; omega))
            rw [htk] at hmx
            have hxj : x - j < n := by omega
            have hc1 := hA.own.at_.h1.cell (j := x - j) (by rw [hA.own.at_.l1]; exact hxj)
            have hwo := hA.own.at_.worth
            have hx0 := hA.x0
            have hjx2 : (j : Int) ≤ (x : Int) := by omega
            have hsub : (x : Int) - (j : Int) = ((x - j : Nat) : Int) := by omega
            have hxj2 : ((x - j : Nat) : Int) < (n : Int) := by omega
            have hr1' : ∀ w, (binOp .mul 33 (.float .f64 (floatOfInt .f64 (j : Int))) (.float .f64 p)).run Try.prog w = .ok (.float .f64 r) w := run_mul hr1
            have hr2' := run_add hr2
            have HBB : Hid (bb (ru p) ws x (j + 1) = bt (ru p) ws x j) := hide rfl
            have HN2 := hide (fun q => And.intro ((hA.drewN q).set x (su (ru p) ws cs x (j + 1))) (hP.step hx))
            clear hu1 hu2 hlik hpr hbt hcl hsc hsu hA hP HA htk hr1 hr2 HN
            generalize cs.getD j 0 = c0 at *
            generalize bt (ru p) ws x j = bj at *
            generalize su (ru p) ws cs x j = sj at *
            generalize su (ru p) ws cs x (j + 1) = sj1 at *
            generalize bb (ru p) ws x j = b0 at *
            generalize cd (ru p) j (ws.getD (x - j) 0) = d0 at *
            generalize ws.getD (x - j) 0 = y0 at *
            go_wp2
            go_quiet (fail)
            go_wp2
            go_roundg (gk - 1)
            case measure => omega
            case rel => exact ⟨j + 1, by omega, by go_num, by rw [HBB.out], hide ⟨_, HN2.out _⟩⟩
          · have hbl := bb_leave (q := ru p) (ws := ws) hjx
            rw [hbl]
            have hjx2 : ¬ (j : Int) ≤ (x : Int) := by omega
            have HBB : Hid (bb (ru p) ws x (j + 1) = bt (ru p) ws x j) := hide rfl
            clear hu1 hu2 hlik hpr hbt hcl hsc hsu hA hP HA hbl
            generalize cs.getD j 0 = c0 at *
            generalize bt (ru p) ws x j = bj at *
            generalize su (ru p) ws cs x j = sj at *
            generalize su (ru p) ws cs x (j + 1) = sj1 at *
            go_wp2
            go_roundg (gk - 1)
            case measure => omega
            case rel => exact ⟨j + 1, by omega, by go_num, by rw [HBB.out], hide ⟨_, HN.out⟩⟩
        · have hjm : j = m := by omega
          subst hjm
          have HQ : Hid (∃ L, AdS w W0 wr v b1 b2 bx n ws L p bo bc j ∧ Pg (ru p) ws cs n (x + 1) 0 L) := hide ⟨L, hA, by have h := HM.out; rw [h] at hP; exact hP.next⟩
          clear HA hA hP
          go_wp2
          go_roundg (og - 1)
          case measure => omega
          case rel => exact ⟨x + 1, by omega, by go_num, HQ⟩
    · have hxn : x = n := by omega
      subst hxn
      obtain ⟨L, hA, hP⟩ := HA.out
      have hpair := hA.own.at_
      have hL := hP.done hpair.l1
      have c0 := hpair.worth
      have f0 := free_pair hpair 0
      have f1 := free_pair hpair 1
      have c1 := hpair.spare
      have HS := hide (hA.own.swap)
      have HO2 := hide ((hA.oth.then (grown_setCell wr v 0 (.slice (some ⟨b2, 0, none⟩) x x)) (.inr (.inl rfl))).then (grown_setCell (wr.setCell ⟨v, 0, none⟩ (.slice (some ⟨b2, 0, none⟩) x x)) v 1 (.slice (some ⟨b1, 0, none⟩) x x)) (.inr (.inl rfl)))
      rw [hL] at HS
      clear hA hP hpair hL HA
      go_wp2
      go_end0
      exact ⟨rfl, HS.out, HO2.out⟩
end Go.Proofs.Ytbebblhnhpdpjaa
