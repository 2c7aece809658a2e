/- The walk of RecordsOrder. -/
import Derived.Test.YtghojalpdkiooaaDoorRf
import Derived.Test.YtghojalpdkiooaaDoorRefNum
import Derived.Test.YtghojalpdkiooaaDoorRh
namespace Go.Proofs.YtghojalpdkiooaaDoor
open Go.RowKit
attribute [local go_sem ↓] Go.wp_at_zero Go.wp_at_succ
set_option maxRecDepth 20000 in
set_option maxHeartbeats 8000000 in
theorem recordsOrder_any (ao bo : Option Addr) (n cap m d : Nat) (xs ys : List Int) (hn : xs.length = n) (hnil : ao = none → n = 0 ∧ cap = 0) (hB : Byt xs) (hc : n ≤ cap) (hm : ys.length = m) (hnil2 : bo = none → m = 0 ∧ d = 0) (hC : Byt ys) (hd : m ≤ d) (hS : n + m ≤ 1000000000) (w : World) (hat : At w ao xs) (hat2 : At w bo ys) (hT : Tab w) :
    Calls Tryd.prog 7 #[.slice ao n cap, .slice bo m d] w fun e w' => e = .returned (.bool true) ∧ w.grownBy w' none := by
  have HX := hide (And.intro hB (And.intro hn (And.intro hat (And.intro hT (And.intro hnil (And.intro hc trivial))))))
  have HY := hide (And.intro hC (And.intro hm (And.intro hat2 (And.intro hnil2 hd))))
  have q := get_any xs hB ao n cap w hn hat hc (by omega) hT
  clear hB hC hat hat2 hT hnil hnil2 hc hd
  obtain ⟨r, hr⟩ : ∃ r, r = getR xs := ⟨_, rfl⟩
  rw [← hr] at q
  obtain ⟨⟨rk, ri, rs, ru, rc⟩, code⟩ := r
  obtain ⟨p, hp⟩ : ∃ p, p = getR (xs ++ ys) := ⟨_, rfl⟩
  obtain ⟨⟨pk, pi, ps, pu, pc⟩, cod2⟩ := p
  unfold rcV at q
  dsimp only at q
  have ha := getR_append xs ys
  have hcs := getR_cases xs
  rw [← hr, ← hp] at ha
  rw [← hr] at hcs
  dsimp only at ha hcs
  have HA := hide (And.intro ha hcs)
  have HP := hide hp
  clear ha hp hr hcs
  go_enter Tryd.func7, Tryd.ntmps7
  go_wp2_with fail
  refine q.mono ?_
  clear q
  rintro e w1 ⟨rfl, hg⟩
  have g2 := World.grownBy_alloc w1 (.cells #[.int .i64 rk, .int .u32 ri, .int .i64 rs, .int .i64 ru, .int .i64 rc] 25) none
  have G2 := hide (grown_trans hg g2)
  clear hg g2
  go_wp2_with fail
  generalize w1.alloc (.cells #[.int .i64 rk, .int .u32 ri, .int .i64 rs, .int .i64 ru, .int .i64 rc] 25) = w2 at *
  generalize w1.heap.size = X1 at *
  refine (copy_any ao n cap xs w2 hn (HX.out.2.2.1.kept G2.out (fun _ _ e => by cases e)) HX.out.2.2.2.2.1 (by omega)).mono ?_
  rintro e w3 ⟨v, rfl, hv, hg⟩
  have G3 := hide (And.intro hv (And.intro G2.out hg))
  obtain ⟨vo, vc, rfl, -⟩ := own_at hv
  clear hv hg
  go_wp2_with (at_builtin; refine wpList_append_lie rfl (.tmp 16) (.tmp 17) rfl w2.heap.size _ n _ rfl G3.out.1 bo m d ys rfl HY.out.2.1 (HY.out.2.2.1.kept (grown_trans G3.out.2.1 G3.out.2.2) (fun _ _ e => by cases e)) HY.out.2.2.2.1 (by omega) G3.out.2.2.size ?_)
  intro v4 w4 ho hg _
  have hgr : w.grownBy w4 none := grown_then (grown_trans G3.out.2.1 G3.out.2.2) hg (fun j e => Or.inl (by have := (G3.out.1.lt j e).1; exact Nat.le_trans G3.out.2.1.size this))
  rw [← List.map_append] at ho
  obtain ⟨wo, wc, rfl, l1, l2, l3, l4, l5, -⟩ := own_at ho
  have q := get_any (xs ++ ys) (HX.out.1.append HY.out.1) wo (n + m) wc w4 l1 l4 l2 (by omega) (HX.out.2.2.2.1.new hgr)
  rw [← HP.out] at q
  unfold rcV at q
  dsimp only at q
  have G4 := hide hgr
  clear hgr ho hg l1 l2 l3 l4 l5 G3 G2
  have hNM : IntKind.i64.wrap ((n : Int) + (m : Int)) = (n : Int) + (m : Int) := by rw [IntKind.wrap_i64]; omega
  clear hNM
  obtain ⟨NM, hNM⟩ : ∃ NM, NM = n + m := ⟨_, rfl⟩
  rw [← hNM] at q ⊢
  clear hNM
  go_wp2_with fail
  refine q.mono ?_
  clear q
  rintro e w5 ⟨rfl, hg⟩
  have g6 := World.grownBy_alloc w5 (.cells #[.int .i64 pk, .int .u32 pi, .int .i64 ps, .int .i64 pu, .int .i64 pc] 25) none
  have G6 := hide (grown_trans G4.out (grown_trans hg g6))
  clear hg g6 G4
  rcases HA.out.2 with ⟨e0, _⟩ | ⟨_, ⟨e0, h4⟩ | ⟨e0, _⟩ | ⟨e0, _⟩⟩
  · subst e0
    have e1 := HA.out.1.1 rfl
    rw [HY.out.2.1] at e1
    by_cases hm0 : m = 0
    · subst hm0
      rw [if_pos rfl] at e1
      subst e1
      go_wp2_with fail
      generalize w5.alloc (.cells #[.int .i64 pk, .int .u32 pi, .int .i64 ps, .int .i64 pu, .int .i64 pc] 25) = w6 at *
      refine (awake_any w6 (HX.out.2.2.2.1.new G6.out)).mono ?_
      rintro e w7 ⟨rfl, hg⟩
      have G7 := hide (grown_trans G6.out hg)
      clear hg
      go_wp2
      go_ret
      exact ⟨rfl, G7.out⟩
    · rw [if_neg hm0] at e1
      subst e1
      have z1 : ((m : Int) == 0) = false := by simpa using hm0
      have z2 : decide ((m : Int) = 0) = false := by simpa using hm0
      have z3 : (0 : Int) < (m : Int) := by omega
      have z4 : decide ((0 : Int) < (m : Int)) = true := by simpa using z3
      have z5 : decide (0 < m) = true := by simp; omega
      go_wp2_with fail
      generalize w5.alloc (.cells #[.int .i64 pk, .int .u32 pi, .int .i64 ps, .int .i64 pu, .int .i64 pc] 25) = w6 at *
      refine (awake_any w6 (HX.out.2.2.2.1.new G6.out)).mono ?_
      rintro e w7 ⟨rfl, hg⟩
      have G7 := hide (grown_trans G6.out hg)
      clear hg
      go_wp2
      go_ret
      exact ⟨rfl, G7.out⟩
  · subst e0
    by_cases hn0 : n = 0
    · subst hn0
      go_wp2_with fail
      generalize w5.alloc (.cells #[.int .i64 pk, .int .u32 pi, .int .i64 ps, .int .i64 pu, .int .i64 pc] 25) = w6 at *
      refine (awake_any w6 (HX.out.2.2.2.1.new G6.out)).mono ?_
      rintro e w7 ⟨rfl, hg⟩
      have G7 := hide (grown_trans G6.out hg)
      clear hg
      go_wp2
      go_ret
      exact ⟨rfl, G7.out⟩
    · have z1 : ((n : Int) == 0) = false := by simpa using hn0
      have z2 : decide ((n : Int) = 0) = false := by simpa using hn0
      have hlt : n < sz (xs.headD 0) := by have := HX.out.2.1; omega
      obtain ⟨a, ha, hcell⟩ : ∃ a, ao = some a ∧ w.cell? a = some (.int .u8 (xs.headD 0)) := by
        have h1 := HX.out.2.2.1
        have h2 := HX.out.2.1
        cases hxs : xs with
        | nil => rw [hxs] at h2; simp at h2; omega
        | cons x r =>
          rw [hxs] at h1
          obtain ⟨a, ha, hc⟩ := h1 0 x rfl
          refine ⟨a, ha, ?_⟩
          rw [show a.add 0 = a by unfold Addr.add; cases a; simp] at hc
          exact hc
      subst ha
      have hcell1 := G6.out.cell hcell (by simp)
      have hk0 := head_byt HX.out.1
      have hkw : IntKind.i64.wrap (xs.headD 0) = xs.headD 0 := by rw [IntKind.wrap_i64]; omega
      have hlt' : (n : Int) < ((sz (xs.headD 0) : Nat) : Int) := by omega
      have hpos : (0 : Int) < (n : Int) := by omega
      have qs := fun w1 (h : w.grownBy w1 none) => size_any (xs.headD 0) w1 (HX.out.2.2.2.1.new h)
      clear hcell hk0 h4 hlt hn0 hn
      generalize sz (xs.headD 0) = S at *
      generalize xs.headD 0 = k at *
      go_wp2_with fail
      generalize w5.alloc (.cells #[.int .i64 pk, .int .u32 pi, .int .i64 ps, .int .i64 pu, .int .i64 pc] 25) = w6 at *
      refine (qs w6 G6.out).mono ?_
      rintro e w7 ⟨rfl, hg⟩
      have G7 := hide (grown_trans G6.out hg)
      clear hg
      go_wp2_with fail
      refine (awake_any w7 (HX.out.2.2.2.1.new G7.out)).mono ?_
      rintro e w8 ⟨rfl, hg⟩
      have G8 := hide (grown_trans G7.out hg)
      clear hg
      go_wp2
      go_ret
      exact ⟨rfl, G8.out⟩
  · subst e0
    have e1 := HA.out.1.2.2 rfl
    subst e1
    go_wp2_with fail
    generalize w5.alloc (.cells #[.int .i64 pk, .int .u32 pi, .int .i64 ps, .int .i64 pu, .int .i64 pc] 25) = w6 at *
    refine (awake_any w6 (HX.out.2.2.2.1.new G6.out)).mono ?_
    rintro e w7 ⟨rfl, hg⟩
    have G7 := hide (grown_trans G6.out hg)
    clear hg
    go_wp2
    go_ret
    exact ⟨rfl, G7.out⟩
  · subst e0
    have e1 := HA.out.1.2.1 rfl
    subst e1
    go_wp2_with fail
    generalize w5.alloc (.cells #[.int .i64 pk, .int .u32 pi, .int .i64 ps, .int .i64 pu, .int .i64 pc] 25) = w6 at *
    refine (awake_any w6 (HX.out.2.2.2.1.new G6.out)).mono ?_
    rintro e w7 ⟨rfl, hg⟩
    have G7 := hide (grown_trans G6.out hg)
    clear hg
    go_wp2
    go_ret
    exact ⟨rfl, G7.out⟩
end Go.Proofs.YtghojalpdkiooaaDoor
