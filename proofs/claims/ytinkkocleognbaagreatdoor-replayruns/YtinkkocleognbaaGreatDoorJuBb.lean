/- Texts joined: P5c, P5d, P5e, P5, Q4, Q5. -/
import Derived.Test.YtinkkocleognbaaGreatDoorJuBa
import Derived.Test.YtinkkocleognbaaGreatDoorJuAz
/- The document's records out of bytes: another kind. -/
namespace Go.Proofs.YtinkkocleognbaaGreatDoor.Bh
open Go.RowKit Go.Proofs.YtinkkocleognbaaGreatDoor.Oc Go.Proofs.YtinkkocleognbaaGreatDoor.Rk
attribute [local go_sem ↓] Go.wp_at_zero Go.wp_at_succ
set_option maxRecDepth 20000 in
set_option maxHeartbeats 8000000 in
theorem getref_3 (xs : List Int) (hB : Byt xs) (hk : xs.headD 0 = 3) (a : Addr) (n cap : Nat) (w : World) (hn : xs.length = n) (hat : At w (some a) xs) (hc : n ≤ cap) (h0 : n ≠ 0) :
    Calls Tryz.prog 60 #[.slice (some a) n cap] w fun r w' => r = .returned (.tuple #[rcV (getR xs).1, .int .i64 (getR xs).2]) ∧ w.grownBy w' none := by
  have hcell : w.cell? a = some (.int .u8 3) := by
    cases hxs : xs with
    | nil => rw [hxs] at hn; simp at hn; omega
    | cons x r =>
      rw [hxs] at hat hk
      obtain ⟨a', ha, hc⟩ := hat 0 x rfl
      cases ha
      rw [show a.add 0 = a by unfold Addr.add; cases a; simp] at hc
      rw [hc, ← hk]; rfl
  have G0 := hide (GtS.begin w)
  have hcell1 := G0.out.gr.cell hcell (by simp)
  have hz1 : ((n : Int) == 0) = false := by simpa using h0
  have hz2 : decide ((n : Int) = 0) = false := by simpa using h0
  have hpos : (0 : Int) < (n : Int) := by omega
  have qz : ∀ w, Calls Tryz.prog 85 #[.int .i64 3] w fun e w' => e = .returned (.int .i64 5) ∧ w' = w := fun w => size_ref 3 w
  obtain ⟨res, hres⟩ : ∃ res, res = getR xs := ⟨_, rfl⟩
  rw [← hres]
  unfold getR at hres
  rw [hk, if_neg (by omega), if_neg (show ¬ sz 3 = 0 by decide), show sz 3 = 5 from rfl, hn] at hres
  have HX := hide (And.intro hB (And.intro hn (And.intro hat hres)))
  clear hB hat hcell h0
  by_cases hlt : n < 5
  · have hlt' : (n : Int) < 5 := by omega
    have HR : Hid (res = (zRc, 4)) := by have := HX.out.2.2.2; rw [if_pos hlt] at this; exact this
    clear hres hlt hn
    go_enter Tryz.func60, Tryz.ntmps60
    go_wp2_with fail
    generalize (w.alloc (.cells #[.int .i64 0, .int .u32 0, .int .i64 0, .int .i64 0, .int .i64 0] 47)) = w1 at *
    refine (qz w1).mono ?_
    rintro e wx ⟨rfl, hw⟩
    obtain rfl := hw.symm
    clear hw qz
    obtain ⟨u0, u1, u2, u3, u4⟩ := box5 G0.out.ans
    have s0 := free_row G0.out.ans 0
    have s1 := free_row G0.out.ans 1
    have s2 := free_row G0.out.ans 2
    have s3 := free_row G0.out.ans 3
    have s4 := free_row G0.out.ans 4
    go_wp2
    obtain ⟨eb, eg⟩ := set5 G0.out.ans (.int .i64 0) (.int .u32 0) (.int .i64 0) (.int .i64 0) (.int .i64 0)
    clear u0 u1 u2 u3 u4 s0 s1 s2 s3 s4
    obtain ⟨e0, e1, e2, e3, e4⟩ := box5 eb
    have EG := hide (grown_then G0.out.gr eg (fun j e => by cases e; exact Or.inl (Nat.le_refl _)))
    clear eb eg
    generalize ((((w1.setCell ⟨w.heap.size, 0, none⟩ (.int .i64 0)).setCell ⟨w.heap.size, 1, none⟩ (.int .u32 0)).setCell ⟨w.heap.size, 2, none⟩ (.int .i64 0)).setCell ⟨w.heap.size, 3, none⟩ (.int .i64 0)).setCell ⟨w.heap.size, 4, none⟩ (.int .i64 0) = w9 at *
    refine bodyPost_ret (v := .tuple #[.agg #[.int .i64 0, .int .u32 0, .int .i64 0, .int .i64 0, .int .i64 0], .int .i64 4]) ?_ rfl ?_
    · rw [results_cell_tmp rfl]; go_simp
    exact ⟨by rw [HR.out]; rfl, EG.out⟩
  · have hlt' : (5 : Int) ≤ (n : Int) := by omega
    have hrc : rcOf xs = ⟨3, leV ((xs.drop 1).take 4), 0, 0, 0⟩ := by unfold rcOf; rw [hk]; rfl
    have HO := hide (rcOf_ok HX.out.1)
    rw [if_neg hlt] at hres
    rw [hrc] at hres HO
    have hcp : 5 ≤ cap := by omega
    have vi := val4 HX.out.1 1
    have li : ((xs.drop 1).take 4).length = 4 := by rw [List.length_take, List.length_drop, HX.out.2.1]; omega
    have Si : ∀ w, (Instr.slice 39 (.slice (some a) n cap) (some (.int .i64 1)) (some (.int .i64 5)) none).run Tryz.prog w = .ok (.slice (cutA (some a) 1 cap) 4 (cap - 1)) w := slice_lh (some a) n cap 1 5 (by decide) (by omega)
    have qi := fun w1 (h : w.grownBy w1 none) => value_any (cutA (some a) 1 cap) 4 (cap - 1) ((xs.drop 1).take 4) w1 li (((HX.out.2.2.1.kept h (fun _ _ e => by cases e)).cut 1 cap (by rw [HX.out.2.1]; omega)).take 4) ((HX.out.1.drop 1).take 4) (by decide)
    generalize leV ((xs.drop 1).take 4) = Vi at *
    generalize cutA (some a) 1 cap = Ai at *
    generalize cap - 1 = Ci at *
    have Wi : IntKind.u32.wrap Vi = Vi := by rw [IntKind.wrap_u32]; omega
    clear vi li
    have HLT := hide hlt
    clear hrc hlt hcp
    clear HX
    have qm := rmay_any ⟨3, Vi, 0, 0, 0⟩ HO.out
    unfold rcV at qm
    dsimp only at qm
    by_cases hmay : (Rc.mk 3 Vi 0 0 0).May
    · rw [decide_eq_true hmay] at qm
      rw [if_pos hmay] at hres
      clear hmay
      by_cases hgt : 5 < n
      · have hgt' : (5 : Int) < (n : Int) := by omega
        have HR : Hid (res = (zRc, 5)) := by rw [if_pos hgt] at hres; exact hres
        clear hres hgt hn
        go_enter Tryz.func60, Tryz.ntmps60
        go_wp2_with fail
        generalize (w.alloc (.cells #[.int .i64 0, .int .u32 0, .int .i64 0, .int .i64 0, .int .i64 0] 47)) = w1 at *
        refine (qz w1).mono ?_
        rintro e wx ⟨rfl, hw⟩
        obtain rfl := hw.symm
        clear hw qz
        have P0 := hide (GrS.begin G0.out ⟨3, 0, 0, 0, 0⟩)
        go_wp2_with fail
        unfold rcC at P0
        dsimp only at P0
        generalize w1.alloc (.cells #[.int .i64 3, .int .u32 0, .int .i64 0, .int .i64 0, .int .i64 0] 47) = m0 at *
        generalize w1.heap.size = Y at *
        refine (qi m0 P0.out.world).mono ?_
        rintro e wx ⟨rfl, hw⟩
        obtain rfl := hw.symm
        clear hw qi
        have P1 := hide (P0.out.set (r' := ⟨3, Vi, 0, 0, 0⟩) 1 (.int .u32 Vi) rfl)
        obtain ⟨x0, x1, x2, x3, x4⟩ := box5 P0.out.rc
        have z1 := free_row P0.out.rc 1
        obtain ⟨y0, y1, y2, y3, y4⟩ := box5 P1.out.rc
        go_wp2_with fail
        clear x0 x1 x2 x3 x4 z1 y0 y1 y2 y3 y4
        generalize m0.setCell ⟨Y, 1, none⟩ (.int .u32 Vi) = m1 at *
        clear P0
        refine (qm m1).mono ?_
        rintro e wf ⟨rfl, hg⟩
        have PF := hide (P1.out.grown hg)
        obtain ⟨x0, x1, x2, x3, x4⟩ := box5 PF.out.rc
        clear hg qm P1
        obtain ⟨u0, u1, u2, u3, u4⟩ := box5 PF.out.g.ans
        have s0 := free_row PF.out.g.ans 0
        have s1 := free_row PF.out.g.ans 1
        have s2 := free_row PF.out.g.ans 2
        have s3 := free_row PF.out.g.ans 3
        have s4 := free_row PF.out.g.ans 4
        go_wp2
        obtain ⟨eb, eg⟩ := set5 PF.out.g.ans (.int .i64 0) (.int .u32 0) (.int .i64 0) (.int .i64 0) (.int .i64 0)
        clear u0 u1 u2 u3 u4 s0 s1 s2 s3 s4
        obtain ⟨e0, e1, e2, e3, e4⟩ := box5 eb
        have EG := hide (grown_then PF.out.g.gr eg (fun j e => by cases e; exact Or.inl (Nat.le_refl _)))
        clear eb eg
        generalize ((((wf.setCell ⟨w.heap.size, 0, none⟩ (.int .i64 0)).setCell ⟨w.heap.size, 1, none⟩ (.int .u32 0)).setCell ⟨w.heap.size, 2, none⟩ (.int .i64 0)).setCell ⟨w.heap.size, 3, none⟩ (.int .i64 0)).setCell ⟨w.heap.size, 4, none⟩ (.int .i64 0) = w9 at *
        refine bodyPost_ret (v := .tuple #[.agg #[.int .i64 0, .int .u32 0, .int .i64 0, .int .i64 0, .int .i64 0], .int .i64 5]) ?_ rfl ?_
        · rw [results_cell_tmp rfl]; go_simp
        exact ⟨by rw [HR.out]; rfl, EG.out⟩
      · have hgt' : (n : Int) ≤ 5 := by omega
        have HR : Hid (res = (⟨3, Vi, 0, 0, 0⟩, 0)) := by rw [if_neg hgt] at hres; exact hres
        clear hres hgt hn
        go_enter Tryz.func60, Tryz.ntmps60
        go_wp2_with fail
        generalize (w.alloc (.cells #[.int .i64 0, .int .u32 0, .int .i64 0, .int .i64 0, .int .i64 0] 47)) = w1 at *
        refine (qz w1).mono ?_
        rintro e wx ⟨rfl, hw⟩
        obtain rfl := hw.symm
        clear hw qz
        have P0 := hide (GrS.begin G0.out ⟨3, 0, 0, 0, 0⟩)
        go_wp2_with fail
        unfold rcC at P0
        dsimp only at P0
        generalize w1.alloc (.cells #[.int .i64 3, .int .u32 0, .int .i64 0, .int .i64 0, .int .i64 0] 47) = m0 at *
        generalize w1.heap.size = Y at *
        refine (qi m0 P0.out.world).mono ?_
        rintro e wx ⟨rfl, hw⟩
        obtain rfl := hw.symm
        clear hw qi
        have P1 := hide (P0.out.set (r' := ⟨3, Vi, 0, 0, 0⟩) 1 (.int .u32 Vi) rfl)
        obtain ⟨x0, x1, x2, x3, x4⟩ := box5 P0.out.rc
        have z1 := free_row P0.out.rc 1
        obtain ⟨y0, y1, y2, y3, y4⟩ := box5 P1.out.rc
        go_wp2_with fail
        clear x0 x1 x2 x3 x4 z1 y0 y1 y2 y3 y4
        generalize m0.setCell ⟨Y, 1, none⟩ (.int .u32 Vi) = m1 at *
        clear P0
        refine (qm m1).mono ?_
        rintro e wf ⟨rfl, hg⟩
        have PF := hide (P1.out.grown hg)
        obtain ⟨x0, x1, x2, x3, x4⟩ := box5 PF.out.rc
        clear hg qm P1
        obtain ⟨u0, u1, u2, u3, u4⟩ := box5 PF.out.g.ans
        have s0 := free_row PF.out.g.ans 0
        have s1 := free_row PF.out.g.ans 1
        have s2 := free_row PF.out.g.ans 2
        have s3 := free_row PF.out.g.ans 3
        have s4 := free_row PF.out.g.ans 4
        go_wp2
        obtain ⟨eb, eg⟩ := set5 PF.out.g.ans (.int .i64 3) (.int .u32 Vi) (.int .i64 0) (.int .i64 0) (.int .i64 0)
        clear u0 u1 u2 u3 u4 s0 s1 s2 s3 s4
        obtain ⟨e0, e1, e2, e3, e4⟩ := box5 eb
        have EG := hide (grown_then PF.out.g.gr eg (fun j e => by cases e; exact Or.inl (Nat.le_refl _)))
        clear eb eg
        generalize ((((wf.setCell ⟨w.heap.size, 0, none⟩ (.int .i64 3)).setCell ⟨w.heap.size, 1, none⟩ (.int .u32 Vi)).setCell ⟨w.heap.size, 2, none⟩ (.int .i64 0)).setCell ⟨w.heap.size, 3, none⟩ (.int .i64 0)).setCell ⟨w.heap.size, 4, none⟩ (.int .i64 0) = w9 at *
        refine bodyPost_ret (v := .tuple #[.agg #[.int .i64 3, .int .u32 Vi, .int .i64 0, .int .i64 0, .int .i64 0], .int .i64 0]) ?_ rfl ?_
        · rw [results_cell_tmp rfl]; go_simp
        exact ⟨by rw [HR.out]; rfl, EG.out⟩
    · rw [decide_eq_false hmay] at qm
      rw [if_neg hmay] at hres
      have HR : Hid (res = (zRc, 160)) := hres
      clear hmay hres hn
      go_enter Tryz.func60, Tryz.ntmps60
      go_wp2_with fail
      generalize (w.alloc (.cells #[.int .i64 0, .int .u32 0, .int .i64 0, .int .i64 0, .int .i64 0] 47)) = w1 at *
      refine (qz w1).mono ?_
      rintro e wx ⟨rfl, hw⟩
      obtain rfl := hw.symm
      clear hw qz
      have P0 := hide (GrS.begin G0.out ⟨3, 0, 0, 0, 0⟩)
      go_wp2_with fail
      unfold rcC at P0
      dsimp only at P0
      generalize w1.alloc (.cells #[.int .i64 3, .int .u32 0, .int .i64 0, .int .i64 0, .int .i64 0] 47) = m0 at *
      generalize w1.heap.size = Y at *
      refine (qi m0 P0.out.world).mono ?_
      rintro e wx ⟨rfl, hw⟩
      obtain rfl := hw.symm
      clear hw qi
      have P1 := hide (P0.out.set (r' := ⟨3, Vi, 0, 0, 0⟩) 1 (.int .u32 Vi) rfl)
      obtain ⟨x0, x1, x2, x3, x4⟩ := box5 P0.out.rc
      have z1 := free_row P0.out.rc 1
      obtain ⟨y0, y1, y2, y3, y4⟩ := box5 P1.out.rc
      go_wp2_with fail
      clear x0 x1 x2 x3 x4 z1 y0 y1 y2 y3 y4
      generalize m0.setCell ⟨Y, 1, none⟩ (.int .u32 Vi) = m1 at *
      clear P0
      refine (qm m1).mono ?_
      rintro e wf ⟨rfl, hg⟩
      have PF := hide (P1.out.grown hg)
      obtain ⟨x0, x1, x2, x3, x4⟩ := box5 PF.out.rc
      clear hg qm P1
      obtain ⟨u0, u1, u2, u3, u4⟩ := box5 PF.out.g.ans
      have s0 := free_row PF.out.g.ans 0
      have s1 := free_row PF.out.g.ans 1
      have s2 := free_row PF.out.g.ans 2
      have s3 := free_row PF.out.g.ans 3
      have s4 := free_row PF.out.g.ans 4
      go_wp2
      obtain ⟨eb, eg⟩ := set5 PF.out.g.ans (.int .i64 0) (.int .u32 0) (.int .i64 0) (.int .i64 0) (.int .i64 0)
      clear u0 u1 u2 u3 u4 s0 s1 s2 s3 s4
      obtain ⟨e0, e1, e2, e3, e4⟩ := box5 eb
      have EG := hide (grown_then PF.out.g.gr eg (fun j e => by cases e; exact Or.inl (Nat.le_refl _)))
      clear eb eg
      generalize ((((wf.setCell ⟨w.heap.size, 0, none⟩ (.int .i64 0)).setCell ⟨w.heap.size, 1, none⟩ (.int .u32 0)).setCell ⟨w.heap.size, 2, none⟩ (.int .i64 0)).setCell ⟨w.heap.size, 3, none⟩ (.int .i64 0)).setCell ⟨w.heap.size, 4, none⟩ (.int .i64 0) = w9 at *
      refine bodyPost_ret (v := .tuple #[.agg #[.int .i64 0, .int .u32 0, .int .i64 0, .int .i64 0, .int .i64 0], .int .i64 160]) ?_ rfl ?_
      · rw [results_cell_tmp rfl]; go_simp
      exact ⟨by rw [HR.out]; rfl, EG.out⟩

end Go.Proofs.YtinkkocleognbaaGreatDoor.Bh
/- The document's records out of bytes: another kind. -/
namespace Go.Proofs.YtinkkocleognbaaGreatDoor.Bh
open Go.RowKit Go.Proofs.YtinkkocleognbaaGreatDoor.Oc Go.Proofs.YtinkkocleognbaaGreatDoor.Rk
attribute [local go_sem ↓] Go.wp_at_zero Go.wp_at_succ
set_option maxRecDepth 20000 in
set_option maxHeartbeats 8000000 in
theorem getref_4 (xs : List Int) (hB : Byt xs) (hk : xs.headD 0 = 4) (a : Addr) (n cap : Nat) (w : World) (hn : xs.length = n) (hat : At w (some a) xs) (hc : n ≤ cap) (h0 : n ≠ 0) :
    Calls Tryz.prog 60 #[.slice (some a) n cap] w fun r w' => r = .returned (.tuple #[rcV (getR xs).1, .int .i64 (getR xs).2]) ∧ w.grownBy w' none := by
  have hcell : w.cell? a = some (.int .u8 4) := by
    cases hxs : xs with
    | nil => rw [hxs] at hn; simp at hn; omega
    | cons x r =>
      rw [hxs] at hat hk
      obtain ⟨a', ha, hc⟩ := hat 0 x rfl
      cases ha
      rw [show a.add 0 = a by unfold Addr.add; cases a; simp] at hc
      rw [hc, ← hk]; rfl
  have G0 := hide (GtS.begin w)
  have hcell1 := G0.out.gr.cell hcell (by simp)
  have hz1 : ((n : Int) == 0) = false := by simpa using h0
  have hz2 : decide ((n : Int) = 0) = false := by simpa using h0
  have hpos : (0 : Int) < (n : Int) := by omega
  have qz : ∀ w, Calls Tryz.prog 85 #[.int .i64 4] w fun e w' => e = .returned (.int .i64 7) ∧ w' = w := fun w => size_ref 4 w
  obtain ⟨res, hres⟩ : ∃ res, res = getR xs := ⟨_, rfl⟩
  rw [← hres]
  unfold getR at hres
  rw [hk, if_neg (by omega), if_neg (show ¬ sz 4 = 0 by decide), show sz 4 = 7 from rfl, hn] at hres
  have HX := hide (And.intro hB (And.intro hn (And.intro hat hres)))
  clear hB hat hcell h0
  by_cases hlt : n < 7
  · have hlt' : (n : Int) < 7 := by omega
    have HR : Hid (res = (zRc, 4)) := by have := HX.out.2.2.2; rw [if_pos hlt] at this; exact this
    clear hres hlt hn
    go_enter Tryz.func60, Tryz.ntmps60
    go_wp2_with fail
    generalize (w.alloc (.cells #[.int .i64 0, .int .u32 0, .int .i64 0, .int .i64 0, .int .i64 0] 47)) = w1 at *
    refine (qz w1).mono ?_
    rintro e wx ⟨rfl, hw⟩
    obtain rfl := hw.symm
    clear hw qz
    obtain ⟨u0, u1, u2, u3, u4⟩ := box5 G0.out.ans
    have s0 := free_row G0.out.ans 0
    have s1 := free_row G0.out.ans 1
    have s2 := free_row G0.out.ans 2
    have s3 := free_row G0.out.ans 3
    have s4 := free_row G0.out.ans 4
    go_wp2
    obtain ⟨eb, eg⟩ := set5 G0.out.ans (.int .i64 0) (.int .u32 0) (.int .i64 0) (.int .i64 0) (.int .i64 0)
    clear u0 u1 u2 u3 u4 s0 s1 s2 s3 s4
    obtain ⟨e0, e1, e2, e3, e4⟩ := box5 eb
    have EG := hide (grown_then G0.out.gr eg (fun j e => by cases e; exact Or.inl (Nat.le_refl _)))
    clear eb eg
    generalize ((((w1.setCell ⟨w.heap.size, 0, none⟩ (.int .i64 0)).setCell ⟨w.heap.size, 1, none⟩ (.int .u32 0)).setCell ⟨w.heap.size, 2, none⟩ (.int .i64 0)).setCell ⟨w.heap.size, 3, none⟩ (.int .i64 0)).setCell ⟨w.heap.size, 4, none⟩ (.int .i64 0) = w9 at *
    refine bodyPost_ret (v := .tuple #[.agg #[.int .i64 0, .int .u32 0, .int .i64 0, .int .i64 0, .int .i64 0], .int .i64 4]) ?_ rfl ?_
    · rw [results_cell_tmp rfl]; go_simp
    exact ⟨by rw [HR.out]; rfl, EG.out⟩
  · have hlt' : (7 : Int) ≤ (n : Int) := by omega
    have hrc : rcOf xs = ⟨4, leV ((xs.drop 1).take 4), leV ((xs.drop 5).take 2), 0, 0⟩ := by unfold rcOf; rw [hk]; rfl
    have HO := hide (rcOf_ok HX.out.1)
    rw [if_neg hlt] at hres
    rw [hrc] at hres HO
    have hcp : 7 ≤ cap := by omega
    have vi := val4 HX.out.1 1
    have li : ((xs.drop 1).take 4).length = 4 := by rw [List.length_take, List.length_drop, HX.out.2.1]; omega
    have Si : ∀ w, (Instr.slice 39 (.slice (some a) n cap) (some (.int .i64 1)) (some (.int .i64 5)) none).run Tryz.prog w = .ok (.slice (cutA (some a) 1 cap) 4 (cap - 1)) w := slice_lh (some a) n cap 1 5 (by decide) (by omega)
    have qi := fun w1 (h : w.grownBy w1 none) => value_any (cutA (some a) 1 cap) 4 (cap - 1) ((xs.drop 1).take 4) w1 li (((HX.out.2.2.1.kept h (fun _ _ e => by cases e)).cut 1 cap (by rw [HX.out.2.1]; omega)).take 4) ((HX.out.1.drop 1).take 4) (by decide)
    generalize leV ((xs.drop 1).take 4) = Vi at *
    generalize cutA (some a) 1 cap = Ai at *
    generalize cap - 1 = Ci at *
    have Wi : IntKind.u32.wrap Vi = Vi := by rw [IntKind.wrap_u32]; omega
    clear vi li
    have vs := val2 HX.out.1 5
    have ls : ((xs.drop 5).take 2).length = 2 := by rw [List.length_take, List.length_drop, HX.out.2.1]; omega
    have Ss : ∀ w, (Instr.slice 39 (.slice (some a) n cap) (some (.int .i64 5)) (some (.int .i64 7)) none).run Tryz.prog w = .ok (.slice (cutA (some a) 5 cap) 2 (cap - 5)) w := slice_lh (some a) n cap 5 7 (by decide) (by omega)
    have qs := fun w1 (h : w.grownBy w1 none) => value_any (cutA (some a) 5 cap) 2 (cap - 5) ((xs.drop 5).take 2) w1 ls (((HX.out.2.2.1.kept h (fun _ _ e => by cases e)).cut 5 cap (by rw [HX.out.2.1]; omega)).take 2) ((HX.out.1.drop 5).take 2) (by decide)
    generalize leV ((xs.drop 5).take 2) = Vs at *
    generalize cutA (some a) 5 cap = As at *
    generalize cap - 5 = Cs at *
    have Ws : IntKind.i64.wrap Vs = Vs := by rw [IntKind.wrap_i64]; omega
    clear vs ls
    have HLT := hide hlt
    clear hrc hlt hcp
    clear HX
    have qm := rmay_any ⟨4, Vi, Vs, 0, 0⟩ HO.out
    unfold rcV at qm
    dsimp only at qm
    by_cases hmay : (Rc.mk 4 Vi Vs 0 0).May
    · rw [decide_eq_true hmay] at qm
      rw [if_pos hmay] at hres
      clear hmay
      by_cases hgt : 7 < n
      · have hgt' : (7 : Int) < (n : Int) := by omega
        have HR : Hid (res = (zRc, 5)) := by rw [if_pos hgt] at hres; exact hres
        clear hres hgt hn
        go_enter Tryz.func60, Tryz.ntmps60
        go_wp2_with fail
        generalize (w.alloc (.cells #[.int .i64 0, .int .u32 0, .int .i64 0, .int .i64 0, .int .i64 0] 47)) = w1 at *
        refine (qz w1).mono ?_
        rintro e wx ⟨rfl, hw⟩
        obtain rfl := hw.symm
        clear hw qz
        have P0 := hide (GrS.begin G0.out ⟨4, 0, 0, 0, 0⟩)
        go_wp2_with fail
        unfold rcC at P0
        dsimp only at P0
        generalize w1.alloc (.cells #[.int .i64 4, .int .u32 0, .int .i64 0, .int .i64 0, .int .i64 0] 47) = m0 at *
        generalize w1.heap.size = Y at *
        refine (qi m0 P0.out.world).mono ?_
        rintro e wx ⟨rfl, hw⟩
        obtain rfl := hw.symm
        clear hw qi
        have P1 := hide (P0.out.set (r' := ⟨4, Vi, 0, 0, 0⟩) 1 (.int .u32 Vi) rfl)
        obtain ⟨x0, x1, x2, x3, x4⟩ := box5 P0.out.rc
        have z1 := free_row P0.out.rc 1
        obtain ⟨y0, y1, y2, y3, y4⟩ := box5 P1.out.rc
        go_wp2_with fail
        clear x0 x1 x2 x3 x4 z1 y0 y1 y2 y3 y4
        generalize m0.setCell ⟨Y, 1, none⟩ (.int .u32 Vi) = m1 at *
        clear P0
        refine (qs m1 P1.out.world).mono ?_
        rintro e wx ⟨rfl, hw⟩
        obtain rfl := hw.symm
        clear hw qs
        have P2 := hide (P1.out.set (r' := ⟨4, Vi, Vs, 0, 0⟩) 2 (.int .i64 Vs) rfl)
        obtain ⟨x0, x1, x2, x3, x4⟩ := box5 P1.out.rc
        have z2 := free_row P1.out.rc 2
        obtain ⟨y0, y1, y2, y3, y4⟩ := box5 P2.out.rc
        go_wp2_with fail
        clear x0 x1 x2 x3 x4 z2 y0 y1 y2 y3 y4
        generalize m1.setCell ⟨Y, 2, none⟩ (.int .i64 Vs) = m2 at *
        clear P1
        refine (qm m2).mono ?_
        rintro e wf ⟨rfl, hg⟩
        have PF := hide (P2.out.grown hg)
        obtain ⟨x0, x1, x2, x3, x4⟩ := box5 PF.out.rc
        clear hg qm P2
        obtain ⟨u0, u1, u2, u3, u4⟩ := box5 PF.out.g.ans
        have s0 := free_row PF.out.g.ans 0
        have s1 := free_row PF.out.g.ans 1
        have s2 := free_row PF.out.g.ans 2
        have s3 := free_row PF.out.g.ans 3
        have s4 := free_row PF.out.g.ans 4
        go_wp2
        obtain ⟨eb, eg⟩ := set5 PF.out.g.ans (.int .i64 0) (.int .u32 0) (.int .i64 0) (.int .i64 0) (.int .i64 0)
        clear u0 u1 u2 u3 u4 s0 s1 s2 s3 s4
        obtain ⟨e0, e1, e2, e3, e4⟩ := box5 eb
        have EG := hide (grown_then PF.out.g.gr eg (fun j e => by cases e; exact Or.inl (Nat.le_refl _)))
        clear eb eg
        generalize ((((wf.setCell ⟨w.heap.size, 0, none⟩ (.int .i64 0)).setCell ⟨w.heap.size, 1, none⟩ (.int .u32 0)).setCell ⟨w.heap.size, 2, none⟩ (.int .i64 0)).setCell ⟨w.heap.size, 3, none⟩ (.int .i64 0)).setCell ⟨w.heap.size, 4, none⟩ (.int .i64 0) = w9 at *
        refine bodyPost_ret (v := .tuple #[.agg #[.int .i64 0, .int .u32 0, .int .i64 0, .int .i64 0, .int .i64 0], .int .i64 5]) ?_ rfl ?_
        · rw [results_cell_tmp rfl]; go_simp
        exact ⟨by rw [HR.out]; rfl, EG.out⟩
      · have hgt' : (n : Int) ≤ 7 := by omega
        have HR : Hid (res = (⟨4, Vi, Vs, 0, 0⟩, 0)) := by rw [if_neg hgt] at hres; exact hres
        clear hres hgt hn
        go_enter Tryz.func60, Tryz.ntmps60
        go_wp2_with fail
        generalize (w.alloc (.cells #[.int .i64 0, .int .u32 0, .int .i64 0, .int .i64 0, .int .i64 0] 47)) = w1 at *
        refine (qz w1).mono ?_
        rintro e wx ⟨rfl, hw⟩
        obtain rfl := hw.symm
        clear hw qz
        have P0 := hide (GrS.begin G0.out ⟨4, 0, 0, 0, 0⟩)
        go_wp2_with fail
        unfold rcC at P0
        dsimp only at P0
        generalize w1.alloc (.cells #[.int .i64 4, .int .u32 0, .int .i64 0, .int .i64 0, .int .i64 0] 47) = m0 at *
        generalize w1.heap.size = Y at *
        refine (qi m0 P0.out.world).mono ?_
        rintro e wx ⟨rfl, hw⟩
        obtain rfl := hw.symm
        clear hw qi
        have P1 := hide (P0.out.set (r' := ⟨4, Vi, 0, 0, 0⟩) 1 (.int .u32 Vi) rfl)
        obtain ⟨x0, x1, x2, x3, x4⟩ := box5 P0.out.rc
        have z1 := free_row P0.out.rc 1
        obtain ⟨y0, y1, y2, y3, y4⟩ := box5 P1.out.rc
        go_wp2_with fail
        clear x0 x1 x2 x3 x4 z1 y0 y1 y2 y3 y4
        generalize m0.setCell ⟨Y, 1, none⟩ (.int .u32 Vi) = m1 at *
        clear P0
        refine (qs m1 P1.out.world).mono ?_
        rintro e wx ⟨rfl, hw⟩
        obtain rfl := hw.symm
        clear hw qs
        have P2 := hide (P1.out.set (r' := ⟨4, Vi, Vs, 0, 0⟩) 2 (.int .i64 Vs) rfl)
        obtain ⟨x0, x1, x2, x3, x4⟩ := box5 P1.out.rc
        have z2 := free_row P1.out.rc 2
        obtain ⟨y0, y1, y2, y3, y4⟩ := box5 P2.out.rc
        go_wp2_with fail
        clear x0 x1 x2 x3 x4 z2 y0 y1 y2 y3 y4
        generalize m1.setCell ⟨Y, 2, none⟩ (.int .i64 Vs) = m2 at *
        clear P1
        refine (qm m2).mono ?_
        rintro e wf ⟨rfl, hg⟩
        have PF := hide (P2.out.grown hg)
        obtain ⟨x0, x1, x2, x3, x4⟩ := box5 PF.out.rc
        clear hg qm P2
        obtain ⟨u0, u1, u2, u3, u4⟩ := box5 PF.out.g.ans
        have s0 := free_row PF.out.g.ans 0
        have s1 := free_row PF.out.g.ans 1
        have s2 := free_row PF.out.g.ans 2
        have s3 := free_row PF.out.g.ans 3
        have s4 := free_row PF.out.g.ans 4
        go_wp2
        obtain ⟨eb, eg⟩ := set5 PF.out.g.ans (.int .i64 4) (.int .u32 Vi) (.int .i64 Vs) (.int .i64 0) (.int .i64 0)
        clear u0 u1 u2 u3 u4 s0 s1 s2 s3 s4
        obtain ⟨e0, e1, e2, e3, e4⟩ := box5 eb
        have EG := hide (grown_then PF.out.g.gr eg (fun j e => by cases e; exact Or.inl (Nat.le_refl _)))
        clear eb eg
        generalize ((((wf.setCell ⟨w.heap.size, 0, none⟩ (.int .i64 4)).setCell ⟨w.heap.size, 1, none⟩ (.int .u32 Vi)).setCell ⟨w.heap.size, 2, none⟩ (.int .i64 Vs)).setCell ⟨w.heap.size, 3, none⟩ (.int .i64 0)).setCell ⟨w.heap.size, 4, none⟩ (.int .i64 0) = w9 at *
        refine bodyPost_ret (v := .tuple #[.agg #[.int .i64 4, .int .u32 Vi, .int .i64 Vs, .int .i64 0, .int .i64 0], .int .i64 0]) ?_ rfl ?_
        · rw [results_cell_tmp rfl]; go_simp
        exact ⟨by rw [HR.out]; rfl, EG.out⟩
    · rw [decide_eq_false hmay] at qm
      rw [if_neg hmay] at hres
      have HR : Hid (res = (zRc, 160)) := hres
      clear hmay hres hn
      go_enter Tryz.func60, Tryz.ntmps60
      go_wp2_with fail
      generalize (w.alloc (.cells #[.int .i64 0, .int .u32 0, .int .i64 0, .int .i64 0, .int .i64 0] 47)) = w1 at *
      refine (qz w1).mono ?_
      rintro e wx ⟨rfl, hw⟩
      obtain rfl := hw.symm
      clear hw qz
      have P0 := hide (GrS.begin G0.out ⟨4, 0, 0, 0, 0⟩)
      go_wp2_with fail
      unfold rcC at P0
      dsimp only at P0
      generalize w1.alloc (.cells #[.int .i64 4, .int .u32 0, .int .i64 0, .int .i64 0, .int .i64 0] 47) = m0 at *
      generalize w1.heap.size = Y at *
      refine (qi m0 P0.out.world).mono ?_
      rintro e wx ⟨rfl, hw⟩
      obtain rfl := hw.symm
      clear hw qi
      have P1 := hide (P0.out.set (r' := ⟨4, Vi, 0, 0, 0⟩) 1 (.int .u32 Vi) rfl)
      obtain ⟨x0, x1, x2, x3, x4⟩ := box5 P0.out.rc
      have z1 := free_row P0.out.rc 1
      obtain ⟨y0, y1, y2, y3, y4⟩ := box5 P1.out.rc
      go_wp2_with fail
      clear x0 x1 x2 x3 x4 z1 y0 y1 y2 y3 y4
      generalize m0.setCell ⟨Y, 1, none⟩ (.int .u32 Vi) = m1 at *
      clear P0
      refine (qs m1 P1.out.world).mono ?_
      rintro e wx ⟨rfl, hw⟩
      obtain rfl := hw.symm
      clear hw qs
      have P2 := hide (P1.out.set (r' := ⟨4, Vi, Vs, 0, 0⟩) 2 (.int .i64 Vs) rfl)
      obtain ⟨x0, x1, x2, x3, x4⟩ := box5 P1.out.rc
      have z2 := free_row P1.out.rc 2
      obtain ⟨y0, y1, y2, y3, y4⟩ := box5 P2.out.rc
      go_wp2_with fail
      clear x0 x1 x2 x3 x4 z2 y0 y1 y2 y3 y4
      generalize m1.setCell ⟨Y, 2, none⟩ (.int .i64 Vs) = m2 at *
      clear P1
      refine (qm m2).mono ?_
      rintro e wf ⟨rfl, hg⟩
      have PF := hide (P2.out.grown hg)
      obtain ⟨x0, x1, x2, x3, x4⟩ := box5 PF.out.rc
      clear hg qm P2
      obtain ⟨u0, u1, u2, u3, u4⟩ := box5 PF.out.g.ans
      have s0 := free_row PF.out.g.ans 0
      have s1 := free_row PF.out.g.ans 1
      have s2 := free_row PF.out.g.ans 2
      have s3 := free_row PF.out.g.ans 3
      have s4 := free_row PF.out.g.ans 4
      go_wp2
      obtain ⟨eb, eg⟩ := set5 PF.out.g.ans (.int .i64 0) (.int .u32 0) (.int .i64 0) (.int .i64 0) (.int .i64 0)
      clear u0 u1 u2 u3 u4 s0 s1 s2 s3 s4
      obtain ⟨e0, e1, e2, e3, e4⟩ := box5 eb
      have EG := hide (grown_then PF.out.g.gr eg (fun j e => by cases e; exact Or.inl (Nat.le_refl _)))
      clear eb eg
      generalize ((((wf.setCell ⟨w.heap.size, 0, none⟩ (.int .i64 0)).setCell ⟨w.heap.size, 1, none⟩ (.int .u32 0)).setCell ⟨w.heap.size, 2, none⟩ (.int .i64 0)).setCell ⟨w.heap.size, 3, none⟩ (.int .i64 0)).setCell ⟨w.heap.size, 4, none⟩ (.int .i64 0) = w9 at *
      refine bodyPost_ret (v := .tuple #[.agg #[.int .i64 0, .int .u32 0, .int .i64 0, .int .i64 0, .int .i64 0], .int .i64 160]) ?_ rfl ?_
      · rw [results_cell_tmp rfl]; go_simp
      exact ⟨by rw [HR.out]; rfl, EG.out⟩

end Go.Proofs.YtinkkocleognbaaGreatDoor.Bh
/- The document's records out of bytes: another kind. -/
namespace Go.Proofs.YtinkkocleognbaaGreatDoor.Bh
open Go.RowKit Go.Proofs.YtinkkocleognbaaGreatDoor.Oc Go.Proofs.YtinkkocleognbaaGreatDoor.Rk
attribute [local go_sem ↓] Go.wp_at_zero Go.wp_at_succ
set_option maxRecDepth 20000 in
set_option maxHeartbeats 8000000 in
theorem getref_5 (xs : List Int) (hB : Byt xs) (hk : xs.headD 0 = 5) (a : Addr) (n cap : Nat) (w : World) (hn : xs.length = n) (hat : At w (some a) xs) (hc : n ≤ cap) (h0 : n ≠ 0) :
    Calls Tryz.prog 60 #[.slice (some a) n cap] w fun r w' => r = .returned (.tuple #[rcV (getR xs).1, .int .i64 (getR xs).2]) ∧ w.grownBy w' none := by
  have hcell : w.cell? a = some (.int .u8 5) := by
    cases hxs : xs with
    | nil => rw [hxs] at hn; simp at hn; omega
    | cons x r =>
      rw [hxs] at hat hk
      obtain ⟨a', ha, hc⟩ := hat 0 x rfl
      cases ha
      rw [show a.add 0 = a by unfold Addr.add; cases a; simp] at hc
      rw [hc, ← hk]; rfl
  have G0 := hide (GtS.begin w)
  have hcell1 := G0.out.gr.cell hcell (by simp)
  have hz1 : ((n : Int) == 0) = false := by simpa using h0
  have hz2 : decide ((n : Int) = 0) = false := by simpa using h0
  have hpos : (0 : Int) < (n : Int) := by omega
  have qz : ∀ w, Calls Tryz.prog 85 #[.int .i64 5] w fun e w' => e = .returned (.int .i64 9) ∧ w' = w := fun w => size_ref 5 w
  obtain ⟨res, hres⟩ : ∃ res, res = getR xs := ⟨_, rfl⟩
  rw [← hres]
  unfold getR at hres
  rw [hk, if_neg (by omega), if_neg (show ¬ sz 5 = 0 by decide), show sz 5 = 9 from rfl, hn] at hres
  have HX := hide (And.intro hB (And.intro hn (And.intro hat hres)))
  clear hB hat hcell h0
  by_cases hlt : n < 9
  · have hlt' : (n : Int) < 9 := by omega
    have HR : Hid (res = (zRc, 4)) := by have := HX.out.2.2.2; rw [if_pos hlt] at this; exact this
    clear hres hlt hn
    go_enter Tryz.func60, Tryz.ntmps60
    go_wp2_with fail
    generalize (w.alloc (.cells #[.int .i64 0, .int .u32 0, .int .i64 0, .int .i64 0, .int .i64 0] 47)) = w1 at *
    refine (qz w1).mono ?_
    rintro e wx ⟨rfl, hw⟩
    obtain rfl := hw.symm
    clear hw qz
    obtain ⟨u0, u1, u2, u3, u4⟩ := box5 G0.out.ans
    have s0 := free_row G0.out.ans 0
    have s1 := free_row G0.out.ans 1
    have s2 := free_row G0.out.ans 2
    have s3 := free_row G0.out.ans 3
    have s4 := free_row G0.out.ans 4
    go_wp2
    obtain ⟨eb, eg⟩ := set5 G0.out.ans (.int .i64 0) (.int .u32 0) (.int .i64 0) (.int .i64 0) (.int .i64 0)
    clear u0 u1 u2 u3 u4 s0 s1 s2 s3 s4
    obtain ⟨e0, e1, e2, e3, e4⟩ := box5 eb
    have EG := hide (grown_then G0.out.gr eg (fun j e => by cases e; exact Or.inl (Nat.le_refl _)))
    clear eb eg
    generalize ((((w1.setCell ⟨w.heap.size, 0, none⟩ (.int .i64 0)).setCell ⟨w.heap.size, 1, none⟩ (.int .u32 0)).setCell ⟨w.heap.size, 2, none⟩ (.int .i64 0)).setCell ⟨w.heap.size, 3, none⟩ (.int .i64 0)).setCell ⟨w.heap.size, 4, none⟩ (.int .i64 0) = w9 at *
    refine bodyPost_ret (v := .tuple #[.agg #[.int .i64 0, .int .u32 0, .int .i64 0, .int .i64 0, .int .i64 0], .int .i64 4]) ?_ rfl ?_
    · rw [results_cell_tmp rfl]; go_simp
    exact ⟨by rw [HR.out]; rfl, EG.out⟩
  · have hlt' : (9 : Int) ≤ (n : Int) := by omega
    have hrc : rcOf xs = ⟨5, 0, 0, 0, i64of (leV ((xs.drop 1).take 8))⟩ := by unfold rcOf; rw [hk]; rfl
    have HO := hide (rcOf_ok HX.out.1)
    rw [if_neg hlt] at hres
    rw [hrc] at hres HO
    have hcp : 9 ≤ cap := by omega
    have vc := val8 HX.out.1 1
    have lc : ((xs.drop 1).take 8).length = 8 := by rw [List.length_take, List.length_drop, HX.out.2.1]; omega
    have Sc : ∀ w, (Instr.slice 39 (.slice (some a) n cap) (some (.int .i64 1)) (some (.int .i64 9)) none).run Tryz.prog w = .ok (.slice (cutA (some a) 1 cap) 8 (cap - 1)) w := slice_lh (some a) n cap 1 9 (by decide) (by omega)
    have qc := fun w1 (h : w.grownBy w1 none) => value_any (cutA (some a) 1 cap) 8 (cap - 1) ((xs.drop 1).take 8) w1 lc (((HX.out.2.2.1.kept h (fun _ _ e => by cases e)).cut 1 cap (by rw [HX.out.2.1]; omega)).take 8) ((HX.out.1.drop 1).take 8) (by decide)
    generalize leV ((xs.drop 1).take 8) = Vc at *
    generalize cutA (some a) 1 cap = Ac at *
    generalize cap - 1 = Cc at *
    have Wc : IntKind.i64.wrap Vc = i64of Vc := i64_wrap vc.1 vc.2
    generalize i64of Vc = Uc at *
    clear vc lc
    have HLT := hide hlt
    clear hrc hlt hcp
    clear HX
    have qm := rmay_any ⟨5, 0, 0, 0, Uc⟩ HO.out
    unfold rcV at qm
    dsimp only at qm
    by_cases hmay : (Rc.mk 5 0 0 0 Uc).May
    · rw [decide_eq_true hmay] at qm
      rw [if_pos hmay] at hres
      clear hmay
      by_cases hgt : 9 < n
      · have hgt' : (9 : Int) < (n : Int) := by omega
        have HR : Hid (res = (zRc, 5)) := by rw [if_pos hgt] at hres; exact hres
        clear hres hgt hn
        go_enter Tryz.func60, Tryz.ntmps60
        go_wp2_with fail
        generalize (w.alloc (.cells #[.int .i64 0, .int .u32 0, .int .i64 0, .int .i64 0, .int .i64 0] 47)) = w1 at *
        refine (qz w1).mono ?_
        rintro e wx ⟨rfl, hw⟩
        obtain rfl := hw.symm
        clear hw qz
        have P0 := hide (GrS.begin G0.out ⟨5, 0, 0, 0, 0⟩)
        go_wp2_with fail
        unfold rcC at P0
        dsimp only at P0
        generalize w1.alloc (.cells #[.int .i64 5, .int .u32 0, .int .i64 0, .int .i64 0, .int .i64 0] 47) = m0 at *
        generalize w1.heap.size = Y at *
        refine (qc m0 P0.out.world).mono ?_
        rintro e wx ⟨rfl, hw⟩
        obtain rfl := hw.symm
        clear hw qc
        have P1 := hide (P0.out.set (r' := ⟨5, 0, 0, 0, Uc⟩) 4 (.int .i64 Uc) rfl)
        obtain ⟨x0, x1, x2, x3, x4⟩ := box5 P0.out.rc
        have z4 := free_row P0.out.rc 4
        obtain ⟨y0, y1, y2, y3, y4⟩ := box5 P1.out.rc
        go_wp2_with fail
        clear x0 x1 x2 x3 x4 z4 y0 y1 y2 y3 y4
        generalize m0.setCell ⟨Y, 4, none⟩ (.int .i64 Uc) = m1 at *
        clear P0
        refine (qm m1).mono ?_
        rintro e wf ⟨rfl, hg⟩
        have PF := hide (P1.out.grown hg)
        obtain ⟨x0, x1, x2, x3, x4⟩ := box5 PF.out.rc
        clear hg qm P1
        obtain ⟨u0, u1, u2, u3, u4⟩ := box5 PF.out.g.ans
        have s0 := free_row PF.out.g.ans 0
        have s1 := free_row PF.out.g.ans 1
        have s2 := free_row PF.out.g.ans 2
        have s3 := free_row PF.out.g.ans 3
        have s4 := free_row PF.out.g.ans 4
        go_wp2
        obtain ⟨eb, eg⟩ := set5 PF.out.g.ans (.int .i64 0) (.int .u32 0) (.int .i64 0) (.int .i64 0) (.int .i64 0)
        clear u0 u1 u2 u3 u4 s0 s1 s2 s3 s4
        obtain ⟨e0, e1, e2, e3, e4⟩ := box5 eb
        have EG := hide (grown_then PF.out.g.gr eg (fun j e => by cases e; exact Or.inl (Nat.le_refl _)))
        clear eb eg
        generalize ((((wf.setCell ⟨w.heap.size, 0, none⟩ (.int .i64 0)).setCell ⟨w.heap.size, 1, none⟩ (.int .u32 0)).setCell ⟨w.heap.size, 2, none⟩ (.int .i64 0)).setCell ⟨w.heap.size, 3, none⟩ (.int .i64 0)).setCell ⟨w.heap.size, 4, none⟩ (.int .i64 0) = w9 at *
        refine bodyPost_ret (v := .tuple #[.agg #[.int .i64 0, .int .u32 0, .int .i64 0, .int .i64 0, .int .i64 0], .int .i64 5]) ?_ rfl ?_
        · rw [results_cell_tmp rfl]; go_simp
        exact ⟨by rw [HR.out]; rfl, EG.out⟩
      · have hgt' : (n : Int) ≤ 9 := by omega
        have HR : Hid (res = (⟨5, 0, 0, 0, Uc⟩, 0)) := by rw [if_neg hgt] at hres; exact hres
        clear hres hgt hn
        go_enter Tryz.func60, Tryz.ntmps60
        go_wp2_with fail
        generalize (w.alloc (.cells #[.int .i64 0, .int .u32 0, .int .i64 0, .int .i64 0, .int .i64 0] 47)) = w1 at *
        refine (qz w1).mono ?_
        rintro e wx ⟨rfl, hw⟩
        obtain rfl := hw.symm
        clear hw qz
        have P0 := hide (GrS.begin G0.out ⟨5, 0, 0, 0, 0⟩)
        go_wp2_with fail
        unfold rcC at P0
        dsimp only at P0
        generalize w1.alloc (.cells #[.int .i64 5, .int .u32 0, .int .i64 0, .int .i64 0, .int .i64 0] 47) = m0 at *
        generalize w1.heap.size = Y at *
        refine (qc m0 P0.out.world).mono ?_
        rintro e wx ⟨rfl, hw⟩
        obtain rfl := hw.symm
        clear hw qc
        have P1 := hide (P0.out.set (r' := ⟨5, 0, 0, 0, Uc⟩) 4 (.int .i64 Uc) rfl)
        obtain ⟨x0, x1, x2, x3, x4⟩ := box5 P0.out.rc
        have z4 := free_row P0.out.rc 4
        obtain ⟨y0, y1, y2, y3, y4⟩ := box5 P1.out.rc
        go_wp2_with fail
        clear x0 x1 x2 x3 x4 z4 y0 y1 y2 y3 y4
        generalize m0.setCell ⟨Y, 4, none⟩ (.int .i64 Uc) = m1 at *
        clear P0
        refine (qm m1).mono ?_
        rintro e wf ⟨rfl, hg⟩
        have PF := hide (P1.out.grown hg)
        obtain ⟨x0, x1, x2, x3, x4⟩ := box5 PF.out.rc
        clear hg qm P1
        obtain ⟨u0, u1, u2, u3, u4⟩ := box5 PF.out.g.ans
        have s0 := free_row PF.out.g.ans 0
        have s1 := free_row PF.out.g.ans 1
        have s2 := free_row PF.out.g.ans 2
        have s3 := free_row PF.out.g.ans 3
        have s4 := free_row PF.out.g.ans 4
        go_wp2
        obtain ⟨eb, eg⟩ := set5 PF.out.g.ans (.int .i64 5) (.int .u32 0) (.int .i64 0) (.int .i64 0) (.int .i64 Uc)
        clear u0 u1 u2 u3 u4 s0 s1 s2 s3 s4
        obtain ⟨e0, e1, e2, e3, e4⟩ := box5 eb
        have EG := hide (grown_then PF.out.g.gr eg (fun j e => by cases e; exact Or.inl (Nat.le_refl _)))
        clear eb eg
        generalize ((((wf.setCell ⟨w.heap.size, 0, none⟩ (.int .i64 5)).setCell ⟨w.heap.size, 1, none⟩ (.int .u32 0)).setCell ⟨w.heap.size, 2, none⟩ (.int .i64 0)).setCell ⟨w.heap.size, 3, none⟩ (.int .i64 0)).setCell ⟨w.heap.size, 4, none⟩ (.int .i64 Uc) = w9 at *
        refine bodyPost_ret (v := .tuple #[.agg #[.int .i64 5, .int .u32 0, .int .i64 0, .int .i64 0, .int .i64 Uc], .int .i64 0]) ?_ rfl ?_
        · rw [results_cell_tmp rfl]; go_simp
        exact ⟨by rw [HR.out]; rfl, EG.out⟩
    · rw [decide_eq_false hmay] at qm
      rw [if_neg hmay] at hres
      have HR : Hid (res = (zRc, 160)) := hres
      clear hmay hres hn
      go_enter Tryz.func60, Tryz.ntmps60
      go_wp2_with fail
      generalize (w.alloc (.cells #[.int .i64 0, .int .u32 0, .int .i64 0, .int .i64 0, .int .i64 0] 47)) = w1 at *
      refine (qz w1).mono ?_
      rintro e wx ⟨rfl, hw⟩
      obtain rfl := hw.symm
      clear hw qz
      have P0 := hide (GrS.begin G0.out ⟨5, 0, 0, 0, 0⟩)
      go_wp2_with fail
      unfold rcC at P0
      dsimp only at P0
      generalize w1.alloc (.cells #[.int .i64 5, .int .u32 0, .int .i64 0, .int .i64 0, .int .i64 0] 47) = m0 at *
      generalize w1.heap.size = Y at *
      refine (qc m0 P0.out.world).mono ?_
      rintro e wx ⟨rfl, hw⟩
      obtain rfl := hw.symm
      clear hw qc
      have P1 := hide (P0.out.set (r' := ⟨5, 0, 0, 0, Uc⟩) 4 (.int .i64 Uc) rfl)
      obtain ⟨x0, x1, x2, x3, x4⟩ := box5 P0.out.rc
      have z4 := free_row P0.out.rc 4
      obtain ⟨y0, y1, y2, y3, y4⟩ := box5 P1.out.rc
      go_wp2_with fail
      clear x0 x1 x2 x3 x4 z4 y0 y1 y2 y3 y4
      generalize m0.setCell ⟨Y, 4, none⟩ (.int .i64 Uc) = m1 at *
      clear P0
      refine (qm m1).mono ?_
      rintro e wf ⟨rfl, hg⟩
      have PF := hide (P1.out.grown hg)
      obtain ⟨x0, x1, x2, x3, x4⟩ := box5 PF.out.rc
      clear hg qm P1
      obtain ⟨u0, u1, u2, u3, u4⟩ := box5 PF.out.g.ans
      have s0 := free_row PF.out.g.ans 0
      have s1 := free_row PF.out.g.ans 1
      have s2 := free_row PF.out.g.ans 2
      have s3 := free_row PF.out.g.ans 3
      have s4 := free_row PF.out.g.ans 4
      go_wp2
      obtain ⟨eb, eg⟩ := set5 PF.out.g.ans (.int .i64 0) (.int .u32 0) (.int .i64 0) (.int .i64 0) (.int .i64 0)
      clear u0 u1 u2 u3 u4 s0 s1 s2 s3 s4
      obtain ⟨e0, e1, e2, e3, e4⟩ := box5 eb
      have EG := hide (grown_then PF.out.g.gr eg (fun j e => by cases e; exact Or.inl (Nat.le_refl _)))
      clear eb eg
      generalize ((((wf.setCell ⟨w.heap.size, 0, none⟩ (.int .i64 0)).setCell ⟨w.heap.size, 1, none⟩ (.int .u32 0)).setCell ⟨w.heap.size, 2, none⟩ (.int .i64 0)).setCell ⟨w.heap.size, 3, none⟩ (.int .i64 0)).setCell ⟨w.heap.size, 4, none⟩ (.int .i64 0) = w9 at *
      refine bodyPost_ret (v := .tuple #[.agg #[.int .i64 0, .int .u32 0, .int .i64 0, .int .i64 0, .int .i64 0], .int .i64 160]) ?_ rfl ?_
      · rw [results_cell_tmp rfl]; go_simp
      exact ⟨by rw [HR.out]; rfl, EG.out⟩

end Go.Proofs.YtinkkocleognbaaGreatDoor.Bh
/- The document's records out of bytes. -/
namespace Go.Proofs.YtinkkocleognbaaGreatDoor.Bh
open Go.RowKit Go.Proofs.YtinkkocleognbaaGreatDoor.Oc Go.Proofs.YtinkkocleognbaaGreatDoor.Rk
attribute [local go_sem ↓] Go.wp_at_zero Go.wp_at_succ
set_option maxRecDepth 20000 in
set_option maxHeartbeats 8000000 in
theorem get_ref (xs : List Int) (hB : Byt xs) (ao : Option Addr) (n cap : Nat) (w : World) (hn : xs.length = n) (hat : At w ao xs) (hc : n ≤ cap) :
    Calls Tryz.prog 60 #[.slice ao n cap] w fun r w' => r = .returned (.tuple #[rcV (getR xs).1, .int .i64 (getR xs).2]) ∧ w.grownBy w' none := by
  have G0 := hide (GtS.begin w)
  by_cases h0 : n = 0
  · subst h0
    have hr : getR xs = (zRc, 4) := by unfold getR; rw [if_pos hn]
    rw [hr]
    clear hr hn hat hB
    go_enter Tryz.func60, Tryz.ntmps60
    go_wp2
    obtain ⟨u0, u1, u2, u3, u4⟩ := box5 G0.out.ans
    generalize (w.alloc (.cells #[.int .i64 0, .int .u32 0, .int .i64 0, .int .i64 0, .int .i64 0] 47)) = w1 at *
    refine bodyPost_ret (v := .tuple #[.agg #[.int .i64 0, .int .u32 0, .int .i64 0, .int .i64 0, .int .i64 0], .int .i64 4]) ?_ rfl ?_
    · rw [results_cell_tmp rfl]; go_simp
    exact ⟨rfl, G0.out.gr⟩
  · obtain ⟨a, ha, hcell⟩ : ∃ a, ao = some a ∧ w.cell? a = some (.int .u8 (xs.headD 0)) := by
      cases hxs : xs with
      | nil => rw [hxs] at hn; simp at hn; omega
      | cons x r =>
        rw [hxs] at hat
        obtain ⟨a, ha, hc⟩ := hat 0 x rfl
        refine ⟨a, ha, ?_⟩
        rw [show a.add 0 = a by unfold Addr.add; cases a; simp] at hc
        exact hc
    subst ha
    by_cases hk : 1 ≤ xs.headD 0 ∧ xs.headD 0 ≤ 5
    · have hk5 : xs.headD 0 = 1 ∨ xs.headD 0 = 2 ∨ xs.headD 0 = 3 ∨ xs.headD 0 = 4 ∨ xs.headD 0 = 5 := by omega
      rcases hk5 with e | e | e | e | e
      · exact getref_1 xs hB e a n cap w hn hat hc h0
      · exact getref_2 xs hB e a n cap w hn hat hc h0
      · exact getref_3 xs hB e a n cap w hn hat hc h0
      · exact getref_4 xs hB e a n cap w hn hat hc h0
      · exact getref_5 xs hB e a n cap w hn hat hc h0
    · have hr : getR xs = (zRc, 160) := by unfold getR; rw [if_neg (by omega), if_pos (sz_zero hk)]
      rw [hr]
      have hk0 := head_byt hB
      have hkw : IntKind.i64.wrap (xs.headD 0) = xs.headD 0 := by rw [IntKind.wrap_i64]; omega
      have qz := size_ref (xs.headD 0)
      rw [sz_zero hk] at qz
      have hcell1 := G0.out.gr.cell hcell (by simp)
      have hz1 : ((n : Int) == 0) = false := by simpa using h0
      have hz2 : decide ((n : Int) = 0) = false := by simpa using h0
      have hpos : (0 : Int) < (n : Int) := by omega
      clear hr hk hk0 hn hat hB h0 hcell
      generalize xs.headD 0 = k at *
      go_enter Tryz.func60, Tryz.ntmps60
      go_wp2_with fail
      generalize (w.alloc (.cells #[.int .i64 0, .int .u32 0, .int .i64 0, .int .i64 0, .int .i64 0] 47)) = w1 at *
      refine (qz w1).mono ?_
      rintro e wx ⟨rfl, hw⟩
      obtain rfl := hw.symm
      clear hw qz
      obtain ⟨u0, u1, u2, u3, u4⟩ := box5 G0.out.ans
      have s0 := free_row G0.out.ans 0
      have s1 := free_row G0.out.ans 1
      have s2 := free_row G0.out.ans 2
      have s3 := free_row G0.out.ans 3
      have s4 := free_row G0.out.ans 4
      go_wp2
      obtain ⟨eb, eg⟩ := set5 G0.out.ans (.int .i64 0) (.int .u32 0) (.int .i64 0) (.int .i64 0) (.int .i64 0)
      clear u0 u1 u2 u3 u4 s0 s1 s2 s3 s4
      obtain ⟨e0, e1, e2, e3, e4⟩ := box5 eb
      have EG := hide (grown_then G0.out.gr eg (fun j e => by cases e; exact Or.inl (Nat.le_refl _)))
      clear eb eg
      generalize ((((w1.setCell ⟨w.heap.size, 0, none⟩ (.int .i64 0)).setCell ⟨w.heap.size, 1, none⟩ (.int .u32 0)).setCell ⟨w.heap.size, 2, none⟩ (.int .i64 0)).setCell ⟨w.heap.size, 3, none⟩ (.int .i64 0)).setCell ⟨w.heap.size, 4, none⟩ (.int .i64 0) = w9 at *
      refine bodyPost_ret (v := .tuple #[.agg #[.int .i64 0, .int .u32 0, .int .i64 0, .int .i64 0, .int .i64 0], .int .i64 160]) ?_ rfl ?_
      · rw [results_cell_tmp rfl]; go_simp
      exact ⟨rfl, EG.out⟩
end Go.Proofs.YtinkkocleognbaaGreatDoor.Bh
/- ReplayRuns: histories that apply whole, the bytes of a record, frames of records. -/
namespace Go.Proofs.YtinkkocleognbaaGreatDoor
open Go.RowKit Go.Shelf
theorem hS_t {S : Sb} (h : S.Ok) (l : List Cg) (k : Nat) : (hS S l k).t ≤ S.t + 7 * k := by
  induction k with
  | zero => simp [hS]
  | succ k ih =>
    cases hc : l[k]? with
    | none =>
      have e : hS S l (k + 1) = hS S l k := by unfold hS; rw [List.take_add_one, hc]; simp
      rw [e]
      omega
    | some c =>
      rw [hS_succ hc]
      have := app_t (S := hS S l k) (c := c) (hS_ok h l k).t0
      omega
/-- A record's bytes, of any kind. -/
theorem bytes_any {r : Rc} (hm : r.May) (hi : r.i < 4294967296) (w : World) : Calls Tryz.prog 27 #[Rk.rcV r] w fun e w' => ∃ v, e = .returned v ∧ w'.ownsRow w.heap.size 5 1 v (sz r.k) ((r.out).map (Value.int .u8)) ∧ w.grownBy w' none := by
  have h0 : 0 ≤ r.i := by unfold Rc.May at hm; omega
  obtain ⟨k, i, s, u, c⟩ := r
  dsimp only at *
  rcases may_kind hm with e | e | e | e | e
  · dsimp only at e; subst e; exact Bh.bytes_1 i s u c hm ⟨hi, h0⟩ w
  · dsimp only at e; subst e; exact Bh.bytes_2 i s u c hm ⟨hi, h0⟩ w
  · dsimp only at e; subst e; exact Bh.bytes_3 i s u c hm ⟨hi, h0⟩ w
  · dsimp only at e; subst e; exact Bh.bytes_4 i s u c hm ⟨hi, h0⟩ w
  · dsimp only at e; subst e; exact Bh.bytes_5 i s u c hm ⟨hi, h0⟩ w
theorem hist_yes (S : Sb) (l : List Cg) : rE S (hist false S l) = 0 ∧ rn S (hist false S l) = (hist false S l).length ∧ fo S (hist false S l) (hist false S l).length = hS S l l.length := by
  induction l generalizing S with
  | nil => exact ⟨rfl, rfl, rfl⟩
  | cons c l ih =>
    obtain ⟨h1, h2, h3⟩ := ih (app S (cgR c S.n S.t))
    have e : hS S (c :: l) (c :: l).length = hS (app S (cgR c S.n S.t)) l l.length := by simp [hS]
    rw [e]
    by_cases h : appE S (cgR c S.n S.t) = 0
    · simp only [hist, h, true_or, if_true, rE, rn, List.length_cons]
      refine ⟨h1, by rw [h2], ?_⟩
      rw [← h3]
      simp [fo]
    · simp only [hist, h, false_or, Bool.false_eq_true, if_false]
      rw [app_no h] at h1 h2 h3 ⊢
      exact ⟨h1, h2, h3⟩
/-- A frame as cells. -/
def fmL (f : Fm) : Lf := ⟨f.e, f.s, .slice f.ao f.n f.cap⟩
theorem fmL_one (fs : List Fm) : LfOne (fs.map fmL) := by
  intro x hx
  obtain ⟨f, -, rfl⟩ := List.mem_map.1 hx
  rfl
/-- Frames of records, made so far: their row, their bodies. -/
structure FsS (wL W : World) (v : Value) (fs : List Fm) : Prop where
  row : W.ownsRow wL.heap.size 41 3 v fs.length (lfcs (fs.map fmL))
  bod : ∀ f ∈ fs, ∃ g, f.ao = some (⟨g, 0, none⟩ : Addr) ∧ wL.heap.size ≤ g ∧ (∃ cur, W.heap[g]? = some (.cells cur 5 (0, 0))) ∧ Oc.At W f.ao f.xs
  ok : ∀ f ∈ fs, f.Ok ∧ f.n ≤ 15
theorem FsS.nil (wL W : World) : FsS wL W (.slice none 0 0) [] := ⟨⟨rfl, Or.inl ⟨rfl, rfl⟩⟩, (fun _ h => by cases h), (fun _ h => by cases h)⟩
theorem FsS.keep {wL W W' : World} {v : Value} {fs : List Fm} {X : Nat → Prop} (h : FsS wL W v fs) (k : Kept W W' X) (h1 : ∀ b, X b → wL.heap.size ≤ b → ∀ cur, W.heap[b]? ≠ some (.cells cur 41 (0, 0)) ∧ W.heap[b]? ≠ some (.cells cur 5 (0, 0))) : FsS wL W' v fs :=
  ⟨Ix.row_keep h.row (fun q hq => by
    obtain ⟨hb, cur, hc⟩ := Ix.own_block h.row hq
    exact k.block q (row_lt hc) (fun hx => (h1 q hx hb cur).1 hc)), fun f hf => by
    obtain ⟨g, e, hb, ⟨cur, hc⟩, ha⟩ := h.bod f hf
    have hn : ¬ X g := fun hx => (h1 g hx hb cur).2 hc
    refine ⟨g, e, hb, ⟨cur, k.at hc hn⟩, At_keep ha k (fun a ea _ => ?_)⟩
    rw [e] at ea
    cases ea
    exact hn, h.ok⟩
theorem FsS.then {wL W W' : World} {v : Value} {fs : List Fm} (h : FsS wL W v fs) (g : W.grownBy W' none) : FsS wL W' v fs := h.keep (Kept.new g (fun _ => False)) (fun _ hx => hx.elim)
/-- Beside a document's book. -/
theorem FsS.dst {wL W W' : World} {v u u' : Value} {fs : List Fm} {lo d : Nat} {S : Sb} (h : FsS wL W v fs) (hd : Db W lo d u S) (k : Dst W W' d u u') : FsS wL W' v fs := h.keep k.kept (fun b hx _ cur => by
  rcases hx with rfl | hx
  · rw [hd.head]; exact ⟨by simp, by simp⟩
  · obtain ⟨-, c2, hc2⟩ := Ix.own_block hd.row hx
    rw [hc2]; exact ⟨by simp, by simp⟩)
/-- A document's book beside an append to the row. -/
theorem FsS.far {wL W W' : World} {v u : Value} {fs : List Fm} {lo d : Nat} {S : Sb} (h : FsS wL W v fs) (hd : Db W lo d u S) (g : W.grownBy W' v.ownBlock) : Db W' lo d u S := by
  refine hd.far (Kept.of g (S := fun b => v.ownBlock = some b) (fun _ e _ => e)) (fun i hi e => ?_)
  obtain ⟨-, cur, hc⟩ := Ix.own_block h.row e
  rcases hi with rfl | hi
  · rw [hd.head] at hc; simp at hc
  · obtain ⟨-, c2, hc2⟩ := Ix.own_block hd.row hi
    rw [hc2] at hc; simp at hc
/-- One frame more. -/
theorem FsS.push {wL W W' : World} {v v' : Value} {fs : List Fm} {f : Fm} (h : FsS wL W v fs) (ho : W'.ownsRow wL.heap.size 41 3 v' (fs.length + 1) (lfcs (fs.map fmL ++ [fmL f]))) (g : W.grownBy W' v.ownBlock) (hf : ∃ g, f.ao = some (⟨g, 0, none⟩ : Addr) ∧ wL.heap.size ≤ g ∧ (∃ cur, W.heap[g]? = some (.cells cur 5 (0, 0))) ∧ Oc.At W f.ao f.xs) (hk : f.Ok ∧ f.n ≤ 15) : FsS wL W' v' (fs ++ [f]) := by
  have K : Kept W W' (fun b => v.ownBlock = some b) := Kept.of g (fun _ e _ => e)
  refine ⟨by rw [List.length_append, List.map_append]; exact ho, fun x hx => ?_, fun x hx => ?_⟩
  · have hx' : ∃ g, x.ao = some (⟨g, 0, none⟩ : Addr) ∧ wL.heap.size ≤ g ∧ (∃ cur, W.heap[g]? = some (.cells cur 5 (0, 0))) ∧ Oc.At W x.ao x.xs := by
      rcases List.mem_append.1 hx with hx | hx
      · exact h.bod x hx
      · rw [List.mem_singleton.1 hx]; exact hf
    obtain ⟨b, e, hb, ⟨cur, hc⟩, ha⟩ := hx'
    have hn : ¬ v.ownBlock = some b := fun ee => by
      obtain ⟨-, c2, hc2⟩ := Ix.own_block h.row ee
      rw [hc2] at hc; simp at hc
    refine ⟨b, e, hb, ⟨cur, K.at hc hn⟩, At_keep ha K (fun a ea _ => ?_)⟩
    rw [e] at ea
    cases ea
    exact hn
  · rcases List.mem_append.1 hx with hx | hx
    · exact h.ok x hx
    · rw [List.mem_singleton.1 hx]; exact hk
end Go.Proofs.YtinkkocleognbaaGreatDoor
/- ReplayRuns: the frames made and the frames given, in one row; as they were lent. -/
namespace Go.Proofs.YtinkkocleognbaaGreatDoor
open Go.RowKit Go.Shelf
/-- The blocks of the frames: what was there before, what is new. -/
def FBd (w wL W : World) (i : Nat) : Prop := (wL.heap.size ≤ i ∨ i < w.heap.size) ∧ i < W.heap.size
theorem fms_all {w wL W : World} {l : List Fm} {vo : Option Addr} {c : Nat} (hrow : W.ownsRow wL.heap.size 41 3 (.slice vo l.length c) l.length (lfcs (l.map fmL))) (_hz : w.heap.size ≤ W.heap.size)
    (hb : ∀ f ∈ l, Oc.At W f.ao f.xs ∧ ∀ a, f.ao = some a → f.xs ≠ [] → FBd w wL W a.block) : FmsAt W (FBd w wL W) vo l := by
  intro j f hj
  have hl := (List.getElem?_eq_some_iff.1 hj).1
  have hj2 : (l.map fmL)[j]? = some (fmL f) := by rw [List.getElem?_map, hj]; rfl
  have hlen : (l.map fmL).length = l.length := by simp
  have hrow2 := hrow
  obtain ⟨g, cap, cur, e, hg, hc, -, -, -, -⟩ := Ix.own_row hrow (by omega)
  cases e
  rw [← hlen] at hrow2
  obtain ⟨a0, a1, a2⟩ := lf_cells hrow2 hj2
  obtain ⟨h1, h2⟩ := hb f (List.mem_of_getElem? hj)
  exact ⟨g, 0, rfl, ⟨.inl hg, row_lt hc⟩, by rw [Nat.zero_add]; exact a0, by rw [Nat.zero_add]; exact a1, by rw [Nat.zero_add]; exact a2, h1, h2⟩
/-- The frames as they were lent. -/
def Lf.fm (x : Lf) (f : Fm) : Fm := match x.u with
  | .slice ao _ cap => ⟨x.e, x.s, ao, f.n, cap, f.xs⟩
  | _ => f
theorem fms_lent {W : World} {B g c n : Nat} {fs : List Fm} {L : List Lf} (hL : L.length = n) (hn : fs.length = n) (h : LfC W B (.slice (some ⟨g, 0, none⟩) (n + 12) c) fs (L ++ mkFs 1 12)) (hO : ∀ f ∈ fs, f.Ok) :
    ∃ fs' : List Fm, fs'.length = n ∧ bds fs' = bds fs ∧ FmsAt W (fun i => B ≤ i ∧ i < W.heap.size) (some ⟨g, 0, none⟩) fs' ∧ ∀ f ∈ fs', f.Ok := by
  have hrow := h.row
  have hlen : (L ++ mkFs 1 12).length = n + 12 := by rw [List.length_append, mkFs_length, hL]
  have hrow3 := hrow
  rw [hlen] at hrow3
  obtain ⟨g', c', cur, e, hB, hc, -, -, -, -⟩ := Ix.own_row hrow3 (by omega)
  cases e
  have key : ∀ (j : Nat) (f : Fm), fs[j]? = some f → ∃ (x : Lf) (gu cu : Nat), L[j]? = some x ∧ x.e = f.e ∧ x.s = f.s ∧ x.u = .slice (some ⟨gu, 0, none⟩) f.n cu ∧ f.n ≤ cu ∧ B ≤ gu ∧ gu < W.heap.size ∧ Oc.At W (some ⟨gu, 0, none⟩) f.xs := fun j f hf => by
    have hj := (List.getElem?_eq_some_iff.1 hf).1
    obtain ⟨x, hx⟩ : ∃ x, L[j]? = some x := ⟨L[j]'(by omega), List.getElem?_eq_getElem _⟩
    have hx2 : (L ++ mkFs 1 12)[j]? = some x := by rw [List.getElem?_append_left (List.getElem?_eq_some_iff.1 hx).1]; exact hx
    obtain ⟨e1, e2, hl⟩ := h.bod j f x hf hx2
    obtain ⟨gu, cu, hu, q1, -, q3, q4, hall, -⟩ := Oc.LentAt.all hl
    have hok := hO f (List.mem_of_getElem? hf)
    refine ⟨x, gu, cu, hx, e1, e2, by rw [hu, hok.len], by rw [hok.len] at q1; omega, q3, q4, fun j u hu => hall j u ?_⟩
    rw [List.getElem?_append_left (List.getElem?_eq_some_iff.1 hu).1]
    exact hu
  refine ⟨List.zipWith Lf.fm L fs, by simp [hL, hn], ?_, ?_, ?_⟩
  · refine List.ext_getElem? fun j => ?_
    unfold bds
    rw [List.getElem?_map, List.getElem?_map, List.getElem?_zipWith]
    cases hf : fs[j]? with
    | none => cases L[j]? <;> rfl
    | some f =>
      obtain ⟨x, gu, cu, hx, -, -, hu, -⟩ := key j f hf
      rw [hx]
      simp [Lf.fm, hu]
  · intro j f' hj
    rw [List.getElem?_zipWith] at hj
    cases hf : fs[j]? with
    | none => rw [hf] at hj; cases hL2 : L[j]? <;> (try rw [hL2] at hj) <;> simp at hj
    | some f =>
      obtain ⟨x, gu, cu, hx, e1, e2, hu, -, q3, q4, ha⟩ := key j f hf
      rw [hx, hf] at hj
      simp only [Option.some.injEq, Lf.fm, hu] at hj
      subst hj
      have hx2 : (L ++ mkFs 1 12)[j]? = some x := by rw [List.getElem?_append_left (List.getElem?_eq_some_iff.1 hx).1]; exact hx
      obtain ⟨a0, a1, a2⟩ := lf_cells hrow hx2
      rw [hu] at a2
      refine ⟨g, 0, rfl, ⟨hB, row_lt hc⟩, by rw [Nat.zero_add]; exact a0, by rw [Nat.zero_add]; exact a1, by rw [Nat.zero_add]; exact a2, ha, fun a ea _ => ?_⟩
      cases ea
      exact ⟨q3, q4⟩
  · intro f' hf'
    obtain ⟨j, hj⟩ := List.mem_iff_getElem?.1 hf'
    rw [List.getElem?_zipWith] at hj
    cases hf : fs[j]? with
    | none => rw [hf] at hj; cases hL2 : L[j]? <;> (try rw [hL2] at hj) <;> simp at hj
    | some f =>
      obtain ⟨x, gu, cu, hx, -, -, hu, q1, -⟩ := key j f hf
      rw [hx, hf] at hj
      simp only [Option.some.injEq, Lf.fm, hu] at hj
      subst hj
      have hok := hO f (List.mem_of_getElem? hf)
      exact ⟨hok.len, q1, hok.few, hok.byt⟩
end Go.Proofs.YtinkkocleognbaaGreatDoor
