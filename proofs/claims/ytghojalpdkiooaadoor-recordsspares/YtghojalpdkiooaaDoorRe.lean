/- records: Get. -/
import Derived.Test.YtghojalpdkiooaaDoorRd
import Derived.Test.YtghojalpdkiooaaDoorRef
namespace Go.Proofs.YtghojalpdkiooaaDoor
open Go.RowKit
attribute [local go_sem ↓] Go.wp_at_zero Go.wp_at_succ
theorem read_any (k : Int) (hk : 1 ≤ k ∧ k ≤ 5) (ys : List Int) (hB : Byt ys) (ao : Option Addr) (n cap : Nat) (w : World) (hs : n + 1 = sz k) (hn : ys.length = n) (hat : At w ao ys) (hnil : ao ≠ none) (hT : Tab w) :
    Calls Tryd.prog 26 #[.int .i64 k, .slice ao n cap] w fun r w' => r = .returned (rcV (rcOf (k :: ys))) ∧ w.grownBy w' none := by
  have hk5 : k = 1 ∨ k = 2 ∨ k = 3 ∨ k = 4 ∨ k = 5 := by omega
  rcases hk5 with rfl | rfl | rfl | rfl | rfl
  · obtain rfl : n = 14 := by have : sz 1 = 15 := rfl; omega
    exact read_1 ys hB ao cap w hn hat hnil hT
  · obtain rfl : n = 4 := by have : sz 2 = 5 := rfl; omega
    exact read_2 ys hB ao cap w hn hat hnil hT
  · obtain rfl : n = 4 := by have : sz 3 = 5 := rfl; omega
    exact read_3 ys hB ao cap w hn hat hnil hT
  · obtain rfl : n = 6 := by have : sz 4 = 7 := rfl; omega
    exact read_4 ys hB ao cap w hn hat hnil hT
  · obtain rfl : n = 8 := by have : sz 5 = 9 := rfl; omega
    exact read_5 ys hB ao cap w hn hat hnil hT
/-- Inside Get: the answer's box. -/
structure GtS (w wr : World) : Prop where
  ans : wr.heap[w.heap.size]? = some (.cells [Value.int .i64 0, .int .u32 0, .int .i64 0, .int .i64 0, .int .i64 0].toArray 25 (0, 0))
  gr : w.grownBy wr none
theorem GtS.grown {w wr wr' : World} (h : GtS w wr) (hg : wr.grownBy wr' none) : GtS w wr' := ⟨(hg.block _ (row_lt h.ans) (by simp)).trans h.ans, grown_trans h.gr hg⟩
theorem GtS.begin (w : World) : GtS w (w.alloc (.cells #[.int .i64 0, .int .u32 0, .int .i64 0, .int .i64 0, .int .i64 0] 25)) := ⟨heap_alloc_new w _, World.grownBy_alloc w _ none⟩
theorem rcOf_cut {xs : List Int} (hk : 1 ≤ xs.headD 0 ∧ xs.headD 0 ≤ 5) (hl : sz (xs.headD 0) ≤ xs.length) : rcOf (xs.headD 0 :: (xs.drop 1).take (sz (xs.headD 0) - 1)) = rcOf xs := by
  have hp := sz_pos (k := xs.headD 0) (by omega)
  have e : xs = (xs.headD 0 :: (xs.drop 1).take (sz (xs.headD 0) - 1)) ++ (xs.drop 1).drop (sz (xs.headD 0) - 1) := by
    rw [List.cons_append, List.take_append_drop]
    cases xs with
    | nil => rw [List.length_nil] at hl; omega
    | cons x r => rfl
  have h := rcOf_append (xs.headD 0 :: (xs.drop 1).take (sz (xs.headD 0) - 1)) ((xs.drop 1).drop (sz (xs.headD 0) - 1)) (by
    rw [List.headD_cons, List.length_cons, List.length_take, List.length_drop]; omega) (by rw [List.headD_cons]; omega)
  rw [← h, ← e]
set_option maxRecDepth 20000 in
set_option maxHeartbeats 8000000 in
theorem get_any (xs : List Int) (hB : Byt xs) (ao : Option Addr) (n cap : Nat) (w : World) (hn : xs.length = n) (hat : At w ao xs) (hc : n ≤ cap) (hm : n ≤ 140737488355328) (hT : Tab w) :
    Calls Tryd.prog 11 #[.slice ao n cap] w fun r w' => r = .returned (.tuple #[rcV (getR xs).1, .int .i64 (getR xs).2]) ∧ w.grownBy w' none := by
  obtain ⟨res, hres⟩ : ∃ res, res = getR xs := ⟨_, rfl⟩
  rw [← hres]
  have HX := hide (And.intro hB (And.intro hn (And.intro hat (And.intro hT hres))))
  clear hB hat hT hres
  have G0 := hide (GtS.begin w)
  by_cases h0 : n = 0
  · subst h0
    have HR : Hid (res = (zRc, 4)) := by have := HX.out.2.2.2.2; unfold getR at this; rw [if_pos HX.out.2.1] at this; exact this
    go_enter Tryd.func11, Tryd.ntmps11
    go_wp2
    obtain ⟨u0, u1, u2, u3, u4⟩ := box5 G0.out.ans
    generalize (w.alloc (.cells #[.int .i64 0, .int .u32 0, .int .i64 0, .int .i64 0, .int .i64 0] 25)) = w1 at *
    refine bodyPost_ret (v := .tuple #[.agg #[.int .i64 0, .int .u32 0, .int .i64 0, .int .i64 0, .int .i64 0], .int .i64 4]) ?_ rfl ?_
    · rw [results_cell_tmp rfl]; go_simp
    exact ⟨by rw [HR.out]; rfl, G0.out.gr⟩
  · have hz1 : ((n : Int) == 0) = false := by simpa using h0
    have hz2 : decide ((n : Int) = 0) = false := by simpa using h0
    have hpos : (0 : Int) < (n : Int) := by omega
    obtain ⟨a, ha, hcell⟩ : ∃ a, ao = some a ∧ w.cell? a = some (.int .u8 (xs.headD 0)) := by
      have h1 := HX.out.2.2.1
      have h2 := HX.out.2.1
      cases hxs : xs with
      | nil => rw [hxs] at h2; simp at h2; omega
      | cons x r =>
        rw [hxs] at h1
        obtain ⟨a, ha, hc⟩ := h1 0 x rfl
        refine ⟨a, ha, ?_⟩
        rw [show a.add 0 = a by unfold Addr.add; cases a; simp] at hc
        exact hc
    subst ha
    have hcell1 := G0.out.gr.cell hcell (by simp)
    have hk0 := head_byt HX.out.1
    have hkw : IntKind.i64.wrap (xs.headD 0) = xs.headD 0 := by rw [IntKind.wrap_i64]; omega
    have hsl := slice_lh (some a) n cap 1 (sz (xs.headD 0))
    have HS := hide (And.intro hsl hn)
    clear hsl hcell hn
    have qk := isKind_any (xs.headD 0)
    have HQ := hide (And.intro h0 hk0)
    clear hk0 h0
    by_cases hk : 1 ≤ xs.headD 0 ∧ xs.headD 0 ≤ 5
    · rw [decide_eq_true hk] at qk
      have qs := fun w1 (h : GtS w w1) => size_any (xs.headD 0) w1 (HX.out.2.2.2.1.new h.gr)
      have hcut := hide (rcOf_cut (xs := xs) hk)
      have hsp := sz_pos (k := xs.headD 0) (by omega)
      have hsl := sz_le (xs.headD 0)
      have HK := hide (And.intro hk (And.intro hsp hsl))
      have hdef := HX.out.2.2.2.2
      unfold getR at hdef
      rw [if_neg (by rw [HX.out.2.1]; exact HQ.out.1), if_neg (by omega)] at hdef
      have HD := hide hdef
      clear hdef hk hsp hsl
      obtain ⟨S, hS⟩ : ∃ S, S = sz (xs.headD 0) := ⟨_, rfl⟩
      rw [← hS] at qs HK HD HS hcut
      have HSz := hide hS
      clear hS
      by_cases hlt : n < S
      · have hlt' : (n : Int) < (S : Int) := by omega
        have HR : Hid (res = (zRc, 4)) := by have := HD.out; rw [if_pos (by rw [HX.out.2.1]; exact hlt)] at this; exact this
        clear hlt
        generalize xs.headD 0 = k at *
        go_enter Tryd.func11, Tryd.ntmps11
        go_wp2_with fail
        generalize (w.alloc (.cells #[.int .i64 0, .int .u32 0, .int .i64 0, .int .i64 0, .int .i64 0] 25)) = w1 at *
        refine (qk w1).mono ?_
        rintro e wx ⟨rfl, hw⟩
        obtain rfl := hw.symm
        clear hw qk
        go_wp2_with fail
        refine (qs w1 G0.out).mono ?_
        rintro e w2 ⟨rfl, hg⟩
        have G2 := hide (G0.out.grown hg)
        clear hg qs
        obtain ⟨u0, u1, u2, u3, u4⟩ := box5 G2.out.ans
        have s0 := free_row G2.out.ans 0
        have s1 := free_row G2.out.ans 1
        have s2 := free_row G2.out.ans 2
        have s3 := free_row G2.out.ans 3
        have s4 := free_row G2.out.ans 4
        go_wp2
        obtain ⟨eb, eg⟩ := set5 G2.out.ans (.int .i64 0) (.int .u32 0) (.int .i64 0) (.int .i64 0) (.int .i64 0)
        clear u0 u1 u2 u3 u4 s0 s1 s2 s3 s4
        obtain ⟨e0, e1, e2, e3, e4⟩ := box5 eb
        have EG := hide (grown_then G2.out.gr eg (fun j e => by cases e; exact Or.inl (Nat.le_refl _)))
        clear eb eg
        generalize ((((w2.setCell ⟨w.heap.size, 0, none⟩ (.int .i64 0)).setCell ⟨w.heap.size, 1, none⟩ (.int .u32 0)).setCell ⟨w.heap.size, 2, none⟩ (.int .i64 0)).setCell ⟨w.heap.size, 3, none⟩ (.int .i64 0)).setCell ⟨w.heap.size, 4, none⟩ (.int .i64 0) = w9 at *
        refine bodyPost_ret (v := .tuple #[.agg #[.int .i64 0, .int .u32 0, .int .i64 0, .int .i64 0, .int .i64 0], .int .i64 4]) ?_ rfl ?_
        · rw [results_cell_tmp rfl]; go_simp
        exact ⟨by rw [HR.out]; rfl, EG.out⟩
      · have hlt' : (S : Int) ≤ (n : Int) := by omega
        have HSL : ∀ w, (Instr.slice 26 (.slice (some a) n cap) (some (.int .i64 1)) (some (.int .i64 (S : Int))) none).run Tryd.prog w = .ok (.slice (cutA (some a) 1 cap) (S - 1) (cap - 1)) w := HS.out.1 (by have := HK.out.2; omega) (by omega)
        have hcx : Byt ((xs.drop 1).take (S - 1)) := (HX.out.1.drop 1).take (S - 1)
        have hlx : ((xs.drop 1).take (S - 1)).length = S - 1 := by rw [List.length_take, List.length_drop, HX.out.2.1]; omega
        have qr := fun w1 (h : GtS w w1) => read_any (xs.headD 0) HK.out.1 ((xs.drop 1).take (S - 1)) hcx (cutA (some a) 1 cap) (S - 1) (cap - 1) w1 (by have := HSz.out; have := HK.out.2; omega) hlx (((HX.out.2.2.1.kept h.gr (fun _ _ e => by cases e)).cut 1 cap (by rw [HX.out.2.1]; omega)).take (S - 1)) (by unfold cutA; split <;> simp) (HX.out.2.2.2.1.new h.gr)
        rw [hcut.out (by rw [HX.out.2.1]; omega)] at qr
        have HO : Hid (rcOf xs).Ok := rcOf_ok HX.out.1
        have hdef := HD.out
        rw [if_neg (by rw [HX.out.2.1]; exact hlt)] at hdef
        have HD2 := hide hdef
        have HLT := hide hlt
        have HT := hide HX.out.2.2.2.1
        have HL := hide HX.out.2.1
        clear hdef HD hcx hlx hcut hlt
        rw [HL.out] at HD2
        generalize rcOf xs = r at *
        obtain ⟨rk, ri, rs, ru, rc⟩ := r
        unfold rcV at qr
        dsimp only at qr
        generalize xs.headD 0 = k at *
        have hw1' : ((S : Int) - 1) = ((S - 1 : Nat) : Int) := by have := HK.out.2; omega
        clear hw1'
        generalize cutA (some a) 1 cap = ac at *
        obtain ⟨M, hM⟩ : ∃ M, M = S - 1 := ⟨_, rfl⟩
        obtain ⟨cp, hcp⟩ : ∃ cp, cp = cap - 1 := ⟨_, rfl⟩
        rw [← hM] at HSL qr
        rw [← hcp] at HSL qr
        clear hM hcp
        by_cases hmay : (Rc.mk rk ri rs ru rc).May
        · have hch : chk ⟨rk, ri, rs, ru, rc⟩ = 0 := if_pos hmay
          by_cases hgt : S < n
          · have hgt' : (S : Int) < (n : Int) := by omega
            have HR : Hid (res = (zRc, 5)) := by have := HD2.out; rw [if_pos hmay, if_pos hgt] at this; exact this
            clear hmay hgt
            go_enter Tryd.func11, Tryd.ntmps11
            go_wp2_with fail
            generalize (w.alloc (.cells #[.int .i64 0, .int .u32 0, .int .i64 0, .int .i64 0, .int .i64 0] 25)) = w1 at *
            refine (qk w1).mono ?_
            rintro e wx ⟨rfl, hw⟩
            obtain rfl := hw.symm
            clear hw qk
            go_wp2_with fail
            refine (qs w1 G0.out).mono ?_
            rintro e w2 ⟨rfl, hg⟩
            have G2 := hide (G0.out.grown hg)
            clear hg qs
            go_wp2_with fail
            refine (qr w2 G2.out).mono ?_
            rintro e w3 ⟨rfl, hg⟩
            have G3 := hide (G2.out.grown hg)
            clear hg qr G2
            have G4 := hide (G3.out.grown (World.grownBy_alloc w3 (.cells #[.int .i64 rk, .int .u32 ri, .int .i64 rs, .int .i64 ru, .int .i64 rc] 25) none))
            have B4 := hide (heap_alloc_new w3 (.cells [Value.int .i64 rk, .int .u32 ri, .int .i64 rs, .int .i64 ru, .int .i64 rc].toArray 25))
            obtain ⟨x0, x1, x2, x3, x4⟩ := box5 B4.out
            have qc := check_any ⟨rk, ri, rs, ru, rc⟩ HO.out _ (HT.out.new G4.out.gr)
            rw [hch] at qc
            unfold rcV at qc
            dsimp only at qc
            clear hch
            go_wp2_with fail
            generalize w3.alloc (.cells #[.int .i64 rk, .int .u32 ri, .int .i64 rs, .int .i64 ru, .int .i64 rc] 25) = w4 at *
            generalize w3.heap.size = Y at *
            refine qc.mono ?_
            rintro e w5 ⟨rfl, hg⟩
            have G5 := hide (G4.out.grown hg)
            have B5 := hide ((hg.block _ (row_lt B4.out) (by simp)).trans B4.out)
            clear hg qc x0 x1 x2 x3 x4 G4 B4
            obtain ⟨x0, x1, x2, x3, x4⟩ := box5 B5.out
            obtain ⟨u0, u1, u2, u3, u4⟩ := box5 G5.out.ans
            have s0 := free_row G5.out.ans 0
            have s1 := free_row G5.out.ans 1
            have s2 := free_row G5.out.ans 2
            have s3 := free_row G5.out.ans 3
            have s4 := free_row G5.out.ans 4
            go_wp2
            obtain ⟨eb, eg⟩ := set5 G5.out.ans (.int .i64 0) (.int .u32 0) (.int .i64 0) (.int .i64 0) (.int .i64 0)
            clear u0 u1 u2 u3 u4 s0 s1 s2 s3 s4
            obtain ⟨e0, e1, e2, e3, e4⟩ := box5 eb
            have EG := hide (grown_then G5.out.gr eg (fun j e => by cases e; exact Or.inl (Nat.le_refl _)))
            clear eb eg
            generalize ((((w5.setCell ⟨w.heap.size, 0, none⟩ (.int .i64 0)).setCell ⟨w.heap.size, 1, none⟩ (.int .u32 0)).setCell ⟨w.heap.size, 2, none⟩ (.int .i64 0)).setCell ⟨w.heap.size, 3, none⟩ (.int .i64 0)).setCell ⟨w.heap.size, 4, none⟩ (.int .i64 0) = w9 at *
            refine bodyPost_ret (v := .tuple #[.agg #[.int .i64 0, .int .u32 0, .int .i64 0, .int .i64 0, .int .i64 0], .int .i64 5]) ?_ rfl ?_
            · rw [results_cell_tmp rfl]; go_simp
            exact ⟨by rw [HR.out]; rfl, EG.out⟩
          · have hgt' : (n : Int) ≤ (S : Int) := by omega
            have HR : Hid (res = (⟨rk, ri, rs, ru, rc⟩, 0)) := by have := HD2.out; rw [if_pos hmay, if_neg hgt] at this; exact this
            clear hmay hgt
            go_enter Tryd.func11, Tryd.ntmps11
            go_wp2_with fail
            generalize (w.alloc (.cells #[.int .i64 0, .int .u32 0, .int .i64 0, .int .i64 0, .int .i64 0] 25)) = w1 at *
            refine (qk w1).mono ?_
            rintro e wx ⟨rfl, hw⟩
            obtain rfl := hw.symm
            clear hw qk
            go_wp2_with fail
            refine (qs w1 G0.out).mono ?_
            rintro e w2 ⟨rfl, hg⟩
            have G2 := hide (G0.out.grown hg)
            clear hg qs
            go_wp2_with fail
            refine (qr w2 G2.out).mono ?_
            rintro e w3 ⟨rfl, hg⟩
            have G3 := hide (G2.out.grown hg)
            clear hg qr G2
            have G4 := hide (G3.out.grown (World.grownBy_alloc w3 (.cells #[.int .i64 rk, .int .u32 ri, .int .i64 rs, .int .i64 ru, .int .i64 rc] 25) none))
            have B4 := hide (heap_alloc_new w3 (.cells [Value.int .i64 rk, .int .u32 ri, .int .i64 rs, .int .i64 ru, .int .i64 rc].toArray 25))
            obtain ⟨x0, x1, x2, x3, x4⟩ := box5 B4.out
            have qc := check_any ⟨rk, ri, rs, ru, rc⟩ HO.out _ (HT.out.new G4.out.gr)
            rw [hch] at qc
            unfold rcV at qc
            dsimp only at qc
            clear hch
            go_wp2_with fail
            generalize w3.alloc (.cells #[.int .i64 rk, .int .u32 ri, .int .i64 rs, .int .i64 ru, .int .i64 rc] 25) = w4 at *
            generalize w3.heap.size = Y at *
            refine qc.mono ?_
            rintro e w5 ⟨rfl, hg⟩
            have G5 := hide (G4.out.grown hg)
            have B5 := hide ((hg.block _ (row_lt B4.out) (by simp)).trans B4.out)
            clear hg qc x0 x1 x2 x3 x4 G4 B4
            obtain ⟨x0, x1, x2, x3, x4⟩ := box5 B5.out
            obtain ⟨u0, u1, u2, u3, u4⟩ := box5 G5.out.ans
            have s0 := free_row G5.out.ans 0
            have s1 := free_row G5.out.ans 1
            have s2 := free_row G5.out.ans 2
            have s3 := free_row G5.out.ans 3
            have s4 := free_row G5.out.ans 4
            go_wp2
            obtain ⟨eb, eg⟩ := set5 G5.out.ans (.int .i64 rk) (.int .u32 ri) (.int .i64 rs) (.int .i64 ru) (.int .i64 rc)
            clear u0 u1 u2 u3 u4 s0 s1 s2 s3 s4
            obtain ⟨e0, e1, e2, e3, e4⟩ := box5 eb
            have EG := hide (grown_then G5.out.gr eg (fun j e => by cases e; exact Or.inl (Nat.le_refl _)))
            clear eb eg
            generalize ((((w5.setCell ⟨w.heap.size, 0, none⟩ (.int .i64 rk)).setCell ⟨w.heap.size, 1, none⟩ (.int .u32 ri)).setCell ⟨w.heap.size, 2, none⟩ (.int .i64 rs)).setCell ⟨w.heap.size, 3, none⟩ (.int .i64 ru)).setCell ⟨w.heap.size, 4, none⟩ (.int .i64 rc) = w9 at *
            refine bodyPost_ret (v := .tuple #[.agg #[.int .i64 rk, .int .u32 ri, .int .i64 rs, .int .i64 ru, .int .i64 rc], .int .i64 0]) ?_ rfl ?_
            · rw [results_cell_tmp rfl]; go_simp
            exact ⟨by rw [HR.out]; rfl, EG.out⟩
        · have hch : chk ⟨rk, ri, rs, ru, rc⟩ = 160 := if_neg hmay
          have HR : Hid (res = (zRc, 160)) := by have := HD2.out; rw [if_neg hmay] at this; exact this
          clear hmay
          go_enter Tryd.func11, Tryd.ntmps11
          go_wp2_with fail
          generalize (w.alloc (.cells #[.int .i64 0, .int .u32 0, .int .i64 0, .int .i64 0, .int .i64 0] 25)) = w1 at *
          refine (qk w1).mono ?_
          rintro e wx ⟨rfl, hw⟩
          obtain rfl := hw.symm
          clear hw qk
          go_wp2_with fail
          refine (qs w1 G0.out).mono ?_
          rintro e w2 ⟨rfl, hg⟩
          have G2 := hide (G0.out.grown hg)
          clear hg qs
          go_wp2_with fail
          refine (qr w2 G2.out).mono ?_
          rintro e w3 ⟨rfl, hg⟩
          have G3 := hide (G2.out.grown hg)
          clear hg qr G2
          have G4 := hide (G3.out.grown (World.grownBy_alloc w3 (.cells #[.int .i64 rk, .int .u32 ri, .int .i64 rs, .int .i64 ru, .int .i64 rc] 25) none))
          have B4 := hide (heap_alloc_new w3 (.cells [Value.int .i64 rk, .int .u32 ri, .int .i64 rs, .int .i64 ru, .int .i64 rc].toArray 25))
          obtain ⟨x0, x1, x2, x3, x4⟩ := box5 B4.out
          have qc := check_any ⟨rk, ri, rs, ru, rc⟩ HO.out _ (HT.out.new G4.out.gr)
          rw [hch] at qc
          unfold rcV at qc
          dsimp only at qc
          clear hch
          go_wp2_with fail
          generalize w3.alloc (.cells #[.int .i64 rk, .int .u32 ri, .int .i64 rs, .int .i64 ru, .int .i64 rc] 25) = w4 at *
          generalize w3.heap.size = Y at *
          refine qc.mono ?_
          rintro e w5 ⟨rfl, hg⟩
          have G5 := hide (G4.out.grown hg)
          have B5 := hide ((hg.block _ (row_lt B4.out) (by simp)).trans B4.out)
          clear hg qc x0 x1 x2 x3 x4 G4 B4
          obtain ⟨x0, x1, x2, x3, x4⟩ := box5 B5.out
          obtain ⟨u0, u1, u2, u3, u4⟩ := box5 G5.out.ans
          have s0 := free_row G5.out.ans 0
          have s1 := free_row G5.out.ans 1
          have s2 := free_row G5.out.ans 2
          have s3 := free_row G5.out.ans 3
          have s4 := free_row G5.out.ans 4
          go_wp2
          obtain ⟨eb, eg⟩ := set5 G5.out.ans (.int .i64 0) (.int .u32 0) (.int .i64 0) (.int .i64 0) (.int .i64 0)
          clear u0 u1 u2 u3 u4 s0 s1 s2 s3 s4
          obtain ⟨e0, e1, e2, e3, e4⟩ := box5 eb
          have EG := hide (grown_then G5.out.gr eg (fun j e => by cases e; exact Or.inl (Nat.le_refl _)))
          clear eb eg
          generalize ((((w5.setCell ⟨w.heap.size, 0, none⟩ (.int .i64 0)).setCell ⟨w.heap.size, 1, none⟩ (.int .u32 0)).setCell ⟨w.heap.size, 2, none⟩ (.int .i64 0)).setCell ⟨w.heap.size, 3, none⟩ (.int .i64 0)).setCell ⟨w.heap.size, 4, none⟩ (.int .i64 0) = w9 at *
          refine bodyPost_ret (v := .tuple #[.agg #[.int .i64 0, .int .u32 0, .int .i64 0, .int .i64 0, .int .i64 0], .int .i64 160]) ?_ rfl ?_
          · rw [results_cell_tmp rfl]; go_simp
          exact ⟨by rw [HR.out]; rfl, EG.out⟩
    · rw [decide_eq_false hk] at qk
      have HR : Hid (res = (zRc, 160)) := by have := HX.out.2.2.2.2; unfold getR at this; rw [if_neg (by rw [HX.out.2.1]; exact HQ.out.1), if_pos (sz_zero hk)] at this; exact this
      clear hk
      generalize xs.headD 0 = k at *
      go_enter Tryd.func11, Tryd.ntmps11
      go_wp2_with fail
      generalize (w.alloc (.cells #[.int .i64 0, .int .u32 0, .int .i64 0, .int .i64 0, .int .i64 0] 25)) = w1 at *
      refine (qk w1).mono ?_
      rintro e wx ⟨rfl, hw⟩
      obtain rfl := hw.symm
      clear hw qk
      obtain ⟨u0, u1, u2, u3, u4⟩ := box5 G0.out.ans
      have s0 := free_row G0.out.ans 0
      have s1 := free_row G0.out.ans 1
      have s2 := free_row G0.out.ans 2
      have s3 := free_row G0.out.ans 3
      have s4 := free_row G0.out.ans 4
      go_wp2
      obtain ⟨eb, eg⟩ := set5 G0.out.ans (.int .i64 0) (.int .u32 0) (.int .i64 0) (.int .i64 0) (.int .i64 0)
      clear u0 u1 u2 u3 u4 s0 s1 s2 s3 s4
      obtain ⟨e0, e1, e2, e3, e4⟩ := box5 eb
      have EG := hide (grown_then G0.out.gr eg (fun j e => by cases e; exact Or.inl (Nat.le_refl _)))
      clear eb eg
      generalize ((((w1.setCell ⟨w.heap.size, 0, none⟩ (.int .i64 0)).setCell ⟨w.heap.size, 1, none⟩ (.int .u32 0)).setCell ⟨w.heap.size, 2, none⟩ (.int .i64 0)).setCell ⟨w.heap.size, 3, none⟩ (.int .i64 0)).setCell ⟨w.heap.size, 4, none⟩ (.int .i64 0) = w9 at *
      refine bodyPost_ret (v := .tuple #[.agg #[.int .i64 0, .int .u32 0, .int .i64 0, .int .i64 0, .int .i64 0], .int .i64 160]) ?_ rfl ?_
      · rw [results_cell_tmp rfl]; go_simp
      exact ⟨by rw [HR.out]; rfl, EG.out⟩
end Go.Proofs.YtghojalpdkiooaaDoor
