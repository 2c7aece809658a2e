/- Texts joined: BkF. -/
import Derived.Test.YtcbiloomnkbalaaGreatDoorJoAo
/- Apply. -/
namespace Go.Proofs.YtcbiloomnkbalaaGreatDoor
open Go.RowKit
attribute [local go_sem ↓] Go.wp_at_zero Go.wp_at_succ
section
variable {w w' : World} {p q : Bp} {S : Sb} {K : Nat}
set_option maxHeartbeats 4000000 in
theorem apply_0 (h : BkAt w p S K) (k i s u c : Int) (hr : Rc.Ok ⟨k, i, s, u, c⟩) (hm : ¬ Rc.May ⟨k, i, s, u, c⟩) (hT : Rk.Tab w) : Calls Tryz.prog 36 #[.pointer (some ⟨p.b, 0, none⟩), Rk.rcV ⟨k, i, s, u, c⟩] w fun e w' => e = .returned (.int .i64 160) ∧ ∃ q, BkAt w' q S (K + 1) ∧ Bst w w' p q := by
  have b0 := Bx.start h.lt [.int .i64 k, .int .u32 i, .int .i64 s, .int .i64 u, .int .i64 c] 46
  have h0 := h.then (grown_alloc w (.cells [Value.int .i64 k, .int .u32 i, .int .i64 s, .int .i64 u, .int .i64 c].toArray 46))
  have HN := hide h0.isNone
  have HC := hide (Rk.check_any ⟨k, i, s, u, c⟩ hr _ (hT.new (grown_alloc w (.cells [Value.int .i64 k, .int .u32 i, .int .i64 s, .int .i64 u, .int .i64 c].toArray 46))))
  rw [show Rk.chk ⟨k, i, s, u, c⟩ = 160 from if_neg hm] at HC
  have H0 := hide (And.intro h0 b0)
  clear h h0 b0 hr hm hT
  unfold Rk.rcV at *
  go_enter Tryz.func36, Tryz.ntmps36
  go_wp2_with fail
  refine HN.out.mono ?_
  rintro e w1 ⟨rfl, rfl⟩
  go_wp2_with fail
  refine HC.out.mono ?_
  rintro e w2 ⟨rfl, hg2⟩
  have HF := hide (And.intro ((H0.out.1.then hg2).mono (Nat.le_succ K)) (H0.out.2.then hg2).st)
  clear hg2 H0 HN HC
  go_wp2
  go_ret
  exact ⟨rfl, p, HF.out⟩
set_option maxHeartbeats 4000000 in
theorem apply_1 (h : BkAt w p S K) (ho : S.Ok) (hK : K ≤ 10000000) (i s : Nat) (u : Int) (hi : i < 4294967296) (hr : Rc.Ok ⟨1, (i : Int), (s : Int), u, 0⟩) (hm : Rc.May ⟨1, (i : Int), (s : Int), u, 0⟩) (hT : Rk.Tab w) : Calls Tryz.prog 36 #[.pointer (some ⟨p.b, 0, none⟩), Rk.rcV ⟨1, (i : Int), (s : Int), u, 0⟩] w fun e w' => e = .returned (.int .i64 (holdE S ⟨1, (i : Int), (s : Int), u, 0⟩)) ∧ ∃ q, BkAt w' q (if holdE S ⟨1, (i : Int), (s : Int), u, 0⟩ = 0 then { S with L := S.L ++ [⟨i, s, u⟩], n := S.n + 1 } else S) (K + 1) ∧ Bst w w' p q := by
  have b0 := Bx.start h.lt [.int .i64 1, .int .u32 (i : Int), .int .i64 (s : Int), .int .i64 u, .int .i64 0] 46
  have h0 := h.then (grown_alloc w (.cells [Value.int .i64 1, .int .u32 (i : Int), .int .i64 (s : Int), .int .i64 u, .int .i64 0].toArray 46))
  have HN := hide h0.isNone
  have HC := hide (Rk.check_any ⟨1, (i : Int), (s : Int), u, 0⟩ hr _ (hT.new (grown_alloc w (.cells [Value.int .i64 1, .int .u32 (i : Int), .int .i64 (s : Int), .int .i64 u, .int .i64 0].toArray 46))))
  rw [show Rk.chk ⟨1, (i : Int), (s : Int), u, 0⟩ = 0 from if_pos hm] at HC
  have HA : Hid (∀ W, BkAt W p S K → Calls Tryz.prog 59 #[.pointer (some ⟨p.b, 0, none⟩), .agg #[.int .i64 1, .int .u32 (i : Int), .int .i64 (s : Int), .int .i64 u, .int .i64 0]] W fun e w' => e = .returned (.int .i64 (holdE S ⟨1, (i : Int), (s : Int), u, 0⟩)) ∧ ∃ q, BkAt w' q (if holdE S ⟨1, (i : Int), (s : Int), u, 0⟩ = 0 then { S with L := S.L ++ [⟨i, s, u⟩], n := S.n + 1 } else S) (K + 1) ∧ Bst W w' p q) := by
    intro W hW
    refine (hold_any hW ho hK 1 0 i s hi u).mono ?_
    rintro e w' ⟨rfl, q, g1, g2⟩
    exact ⟨rfl, q, g1.mono (by omega), g2⟩
  have H0 := hide (And.intro h0 b0)
  clear h h0 b0 hr hm hT ho
  generalize (if holdE S ⟨1, (i : Int), (s : Int), u, 0⟩ = 0 then { S with L := S.L ++ [⟨i, s, u⟩], n := S.n + 1 } else S) = S' at *
  generalize (holdE S ⟨1, (i : Int), (s : Int), u, 0⟩) = res at *
  unfold Rk.rcV at *
  go_enter Tryz.func36, Tryz.ntmps36
  go_wp2_with fail
  refine HN.out.mono ?_
  rintro e w1 ⟨rfl, rfl⟩
  go_wp2_with fail
  refine HC.out.mono ?_
  rintro e w2 ⟨rfl, hg2⟩
  have hX := H0.out.2.then hg2
  have x0 := hX.cells 0 _ rfl
  have x1 := hX.cells 1 _ rfl
  have x2 := hX.cells 2 _ rfl
  have x3 := hX.cells 3 _ rfl
  have x4 := hX.cells 4 _ rfl
  have HA' := hide (HA.out w2 (H0.out.1.then hg2))
  have HX := hide hX.st
  clear hX hg2 H0 HN HC HA
  go_wp2_with fail
  refine HA'.out.mono ?_
  rintro e w3 ⟨rfl, q, g1, g2⟩
  have HF := hide (And.intro g1 (HX.out.trans g2))
  clear g1 g2 HX HA'
  go_wp2
  go_ret
  exact ⟨rfl, q, HF.out⟩
set_option maxHeartbeats 4000000 in
theorem apply_2 (h : BkAt w p S K) (ho : S.Ok) (hK : K ≤ 10000000) (i : Nat) (hi : i < 4294967296) (hr : Rc.Ok ⟨2, (i : Int), 0, 0, 0⟩) (hm : Rc.May ⟨2, (i : Int), 0, 0, 0⟩) (hT : Rk.Tab w) : Calls Tryz.prog 36 #[.pointer (some ⟨p.b, 0, none⟩), Rk.rcV ⟨2, (i : Int), 0, 0, 0⟩] w fun e w' => e = .returned (.int .i64 (if (fnd S.L i).isSome then (0 : Int) else 171)) ∧ ∃ q, BkAt w' q { S with L := (fnd S.L i).elim S.L fun x => upd S.L x.i { x with u := 0 } } (K + 1) ∧ Bst w w' p q := by
  have b0 := Bx.start h.lt [.int .i64 2, .int .u32 (i : Int), .int .i64 0, .int .i64 0, .int .i64 0] 46
  have h0 := h.then (grown_alloc w (.cells [Value.int .i64 2, .int .u32 (i : Int), .int .i64 0, .int .i64 0, .int .i64 0].toArray 46))
  have HN := hide h0.isNone
  have HC := hide (Rk.check_any ⟨2, (i : Int), 0, 0, 0⟩ hr _ (hT.new (grown_alloc w (.cells [Value.int .i64 2, .int .u32 (i : Int), .int .i64 0, .int .i64 0, .int .i64 0].toArray 46))))
  rw [show Rk.chk ⟨2, (i : Int), 0, 0, 0⟩ = 0 from if_pos hm] at HC
  have HA : Hid (∀ W, BkAt W p S K → Calls Tryz.prog 60 #[.pointer (some ⟨p.b, 0, none⟩), .int .u32 (i : Int)] W fun e w' => e = .returned (.int .i64 (if (fnd S.L i).isSome then (0 : Int) else 171)) ∧ ∃ q, BkAt w' q { S with L := (fnd S.L i).elim S.L fun x => upd S.L x.i { x with u := 0 } } (K + 1) ∧ Bst W w' p q) := by
    intro W hW
    refine (confirm_any hW ho.wk hK i hi).mono ?_
    rintro e w' ⟨rfl, q, g1, g2⟩
    exact ⟨rfl, q, g1.mono (by omega), g2⟩
  have H0 := hide (And.intro h0 b0)
  clear h h0 b0 hr hm hT ho
  generalize { S with L := (fnd S.L i).elim S.L fun x => upd S.L x.i { x with u := 0 } } = S' at *
  generalize (if (fnd S.L i).isSome then (0 : Int) else 171) = res at *
  unfold Rk.rcV at *
  go_enter Tryz.func36, Tryz.ntmps36
  go_wp2_with fail
  refine HN.out.mono ?_
  rintro e w1 ⟨rfl, rfl⟩
  go_wp2_with fail
  refine HC.out.mono ?_
  rintro e w2 ⟨rfl, hg2⟩
  have hX := H0.out.2.then hg2
  have x0 := hX.cells 0 _ rfl
  have x1 := hX.cells 1 _ rfl
  have HA' := hide (HA.out w2 (H0.out.1.then hg2))
  have HX := hide hX.st
  clear hX hg2 H0 HN HC HA
  go_wp2_with fail
  refine HA'.out.mono ?_
  rintro e w3 ⟨rfl, q, g1, g2⟩
  have HF := hide (And.intro g1 (HX.out.trans g2))
  clear g1 g2 HX HA'
  go_wp2
  go_ret
  exact ⟨rfl, q, HF.out⟩
set_option maxHeartbeats 4000000 in
theorem apply_3 (h : BkAt w p S K) (ho : S.Ok) (hK : K ≤ 10000000) (i : Nat) (hi : i < 4294967296) (hr : Rc.Ok ⟨3, (i : Int), 0, 0, 0⟩) (hm : Rc.May ⟨3, (i : Int), 0, 0, 0⟩) (hT : Rk.Tab w) : Calls Tryz.prog 36 #[.pointer (some ⟨p.b, 0, none⟩), Rk.rcV ⟨3, (i : Int), 0, 0, 0⟩] w fun e w' => e = .returned (.int .i64 (if (fnd S.L i).isSome then (0 : Int) else 171)) ∧ ∃ q, BkAt w' q { S with L := del S.L i } (K + 1) ∧ Bst w w' p q := by
  have b0 := Bx.start h.lt [.int .i64 3, .int .u32 (i : Int), .int .i64 0, .int .i64 0, .int .i64 0] 46
  have h0 := h.then (grown_alloc w (.cells [Value.int .i64 3, .int .u32 (i : Int), .int .i64 0, .int .i64 0, .int .i64 0].toArray 46))
  have HN := hide h0.isNone
  have HC := hide (Rk.check_any ⟨3, (i : Int), 0, 0, 0⟩ hr _ (hT.new (grown_alloc w (.cells [Value.int .i64 3, .int .u32 (i : Int), .int .i64 0, .int .i64 0, .int .i64 0].toArray 46))))
  rw [show Rk.chk ⟨3, (i : Int), 0, 0, 0⟩ = 0 from if_pos hm] at HC
  have HA : Hid (∀ W, BkAt W p S K → Calls Tryz.prog 61 #[.pointer (some ⟨p.b, 0, none⟩), .int .u32 (i : Int)] W fun e w' => e = .returned (.int .i64 (if (fnd S.L i).isSome then (0 : Int) else 171)) ∧ ∃ q, BkAt w' q { S with L := del S.L i } (K + 1) ∧ Bst W w' p q) := by
    intro W hW
    refine (cancel_any hW ho.wk hK i hi).mono ?_
    rintro e w' ⟨rfl, q, g1, g2⟩
    exact ⟨rfl, q, g1.mono (by omega), g2⟩
  have H0 := hide (And.intro h0 b0)
  clear h h0 b0 hr hm hT ho
  generalize { S with L := del S.L i } = S' at *
  generalize (if (fnd S.L i).isSome then (0 : Int) else 171) = res at *
  unfold Rk.rcV at *
  go_enter Tryz.func36, Tryz.ntmps36
  go_wp2_with fail
  refine HN.out.mono ?_
  rintro e w1 ⟨rfl, rfl⟩
  go_wp2_with fail
  refine HC.out.mono ?_
  rintro e w2 ⟨rfl, hg2⟩
  have hX := H0.out.2.then hg2
  have x0 := hX.cells 0 _ rfl
  have x1 := hX.cells 1 _ rfl
  have HA' := hide (HA.out w2 (H0.out.1.then hg2))
  have HX := hide hX.st
  clear hX hg2 H0 HN HC HA
  go_wp2_with fail
  refine HA'.out.mono ?_
  rintro e w3 ⟨rfl, q, g1, g2⟩
  have HF := hide (And.intro g1 (HX.out.trans g2))
  clear g1 g2 HX HA'
  go_wp2
  go_ret
  exact ⟨rfl, q, HF.out⟩
set_option maxHeartbeats 4000000 in
theorem apply_4 (h : BkAt w p S K) (ho : S.Ok) (_hK : K ≤ 10000000) (i s : Nat) (hi : i < 4294967296) (hr : Rc.Ok ⟨4, (i : Int), (s : Int), 0, 0⟩) (hm : Rc.May ⟨4, (i : Int), (s : Int), 0, 0⟩) (hT : Rk.Tab w) : Calls Tryz.prog 36 #[.pointer (some ⟨p.b, 0, none⟩), Rk.rcV ⟨4, (i : Int), (s : Int), 0, 0⟩] w fun e w' => e = .returned (.int .i64 (reseatE S i s)) ∧ ∃ q, BkAt w' q (if reseatE S i s = 0 then { S with L := (fnd S.L i).elim S.L fun x => upd S.L x.i { x with s := s } } else S) (K + 1) ∧ Bst w w' p q := by
  have b0 := Bx.start h.lt [.int .i64 4, .int .u32 (i : Int), .int .i64 (s : Int), .int .i64 0, .int .i64 0] 46
  have h0 := h.then (grown_alloc w (.cells [Value.int .i64 4, .int .u32 (i : Int), .int .i64 (s : Int), .int .i64 0, .int .i64 0].toArray 46))
  have HN := hide h0.isNone
  have HC := hide (Rk.check_any ⟨4, (i : Int), (s : Int), 0, 0⟩ hr _ (hT.new (grown_alloc w (.cells [Value.int .i64 4, .int .u32 (i : Int), .int .i64 (s : Int), .int .i64 0, .int .i64 0].toArray 46))))
  rw [show Rk.chk ⟨4, (i : Int), (s : Int), 0, 0⟩ = 0 from if_pos hm] at HC
  have HA : Hid (∀ W, BkAt W p S K → Calls Tryz.prog 62 #[.pointer (some ⟨p.b, 0, none⟩), .int .u32 (i : Int), .int .i64 (s : Int)] W fun e w' => e = .returned (.int .i64 (reseatE S i s)) ∧ ∃ q, BkAt w' q (if reseatE S i s = 0 then { S with L := (fnd S.L i).elim S.L fun x => upd S.L x.i { x with s := s } } else S) (K + 1) ∧ Bst W w' p q) := by
    intro W hW
    refine (reseat_any hW ho.wk i hi s).mono ?_
    rintro e w' ⟨rfl, g1, g2⟩
    exact ⟨rfl, p, g1.mono (by omega), Bst.keep g2⟩
  have H0 := hide (And.intro h0 b0)
  clear h h0 b0 hr hm hT ho
  generalize (if reseatE S i s = 0 then { S with L := (fnd S.L i).elim S.L fun x => upd S.L x.i { x with s := s } } else S) = S' at *
  generalize (reseatE S i s) = res at *
  unfold Rk.rcV at *
  go_enter Tryz.func36, Tryz.ntmps36
  go_wp2_with fail
  refine HN.out.mono ?_
  rintro e w1 ⟨rfl, rfl⟩
  go_wp2_with fail
  refine HC.out.mono ?_
  rintro e w2 ⟨rfl, hg2⟩
  have hX := H0.out.2.then hg2
  have x0 := hX.cells 0 _ rfl
  have x1 := hX.cells 1 _ rfl
  have x2 := hX.cells 2 _ rfl
  have HA' := hide (HA.out w2 (H0.out.1.then hg2))
  have HX := hide hX.st
  clear hX hg2 H0 HN HC HA
  go_wp2_with fail
  refine HA'.out.mono ?_
  rintro e w3 ⟨rfl, q, g1, g2⟩
  have HF := hide (And.intro g1 (HX.out.trans g2))
  clear g1 g2 HX HA'
  go_wp2
  go_ret
  exact ⟨rfl, q, HF.out⟩
set_option maxHeartbeats 4000000 in
theorem apply_5 (h : BkAt w p S K) (ho : S.Ok) (hK : K ≤ 10000000) (c : Int) (hc : c ≤ mxC) (hr : Rc.Ok ⟨5, 0, 0, 0, c⟩) (hm : Rc.May ⟨5, 0, 0, 0, c⟩) (hT : Rk.Tab w) : Calls Tryz.prog 36 #[.pointer (some ⟨p.b, 0, none⟩), Rk.rcV ⟨5, 0, 0, 0, c⟩] w fun e w' => e = .returned (.int .i64 (if c ≤ S.t then (173 : Int) else 0)) ∧ ∃ q, BkAt w' q (if c ≤ S.t then S else { S with L := tik S.L c, t := c }) (K + 1) ∧ Bst w w' p q := by
  have b0 := Bx.start h.lt [.int .i64 5, .int .u32 0, .int .i64 0, .int .i64 0, .int .i64 c] 46
  have h0 := h.then (grown_alloc w (.cells [Value.int .i64 5, .int .u32 0, .int .i64 0, .int .i64 0, .int .i64 c].toArray 46))
  have HN := hide h0.isNone
  have HC := hide (Rk.check_any ⟨5, 0, 0, 0, c⟩ hr _ (hT.new (grown_alloc w (.cells [Value.int .i64 5, .int .u32 0, .int .i64 0, .int .i64 0, .int .i64 c].toArray 46))))
  rw [show Rk.chk ⟨5, 0, 0, 0, c⟩ = 0 from if_pos hm] at HC
  have HA : Hid (∀ W, BkAt W p S K → Calls Tryz.prog 63 #[.pointer (some ⟨p.b, 0, none⟩), .int .i64 c] W fun e w' => e = .returned (.int .i64 (if c ≤ S.t then (173 : Int) else 0)) ∧ ∃ q, BkAt w' q (if c ≤ S.t then S else { S with L := tik S.L c, t := c }) (K + 1) ∧ Bst W w' p q) := by
    intro W hW
    refine (tick_any hW ho.wk hK c hc).mono ?_
    rintro e w' ⟨rfl, q, g1, g2⟩
    exact ⟨rfl, q, g1.mono (by omega), g2⟩
  have H0 := hide (And.intro h0 b0)
  clear h h0 b0 hr hm hT ho
  generalize (if c ≤ S.t then S else { S with L := tik S.L c, t := c }) = S' at *
  generalize (if c ≤ S.t then (173 : Int) else 0) = res at *
  unfold Rk.rcV at *
  go_enter Tryz.func36, Tryz.ntmps36
  go_wp2_with fail
  refine HN.out.mono ?_
  rintro e w1 ⟨rfl, rfl⟩
  go_wp2_with fail
  refine HC.out.mono ?_
  rintro e w2 ⟨rfl, hg2⟩
  have hX := H0.out.2.then hg2
  have x0 := hX.cells 0 _ rfl
  have x4 := hX.cells 4 _ rfl
  have HA' := hide (HA.out w2 (H0.out.1.then hg2))
  have HX := hide hX.st
  clear hX hg2 H0 HN HC HA
  go_wp2_with fail
  refine HA'.out.mono ?_
  rintro e w3 ⟨rfl, q, g1, g2⟩
  have HF := hide (And.intro g1 (HX.out.trans g2))
  clear g1 g2 HX HA'
  go_wp2
  go_ret
  exact ⟨rfl, q, HF.out⟩
/-- Any record. -/
theorem apply_any (h : BkAt w p S K) (ho : S.Ok) (hK : K ≤ 10000000) (r : Rc) (hr : r.Ok) (hT : Rk.Tab w) : Calls Tryz.prog 36 #[.pointer (some ⟨p.b, 0, none⟩), Rk.rcV r] w fun e w' => e = .returned (.int .i64 (appE S r)) ∧ ∃ q, BkAt w' q (app S r) (K + 1) ∧ Bst w w' p q := by
  obtain ⟨k, i, s, u, c⟩ := r
  by_cases hm : Rc.May ⟨k, i, s, u, c⟩
  · have hi1 := hr.i1
    have hi0 := hr.i0
    simp only at hi0 hi1
    obtain ⟨n, rfl⟩ : ∃ n : Nat, i = (n : Int) := ⟨i.toNat, by omega⟩
    have hk := may_kind hm
    simp only at hk
    have hE : ∀ {e : Int} {S' S'' : Sb}, appE S ⟨k, (n : Int), s, u, c⟩ = e → (e = 0 → appS S ⟨k, (n : Int), s, u, c⟩ = S') → (e ≠ 0 → S' = S) → app S ⟨k, (n : Int), s, u, c⟩ = S' := by
      intro e S' _ h1 h2 h3
      by_cases h4 : e = 0
      · rw [app_yes (by rw [h1, h4]), h2 h4]
      · rw [app_no (by rw [h1]; exact h4), h3 h4]
    rcases hk with rfl | rfl | rfl | rfl | rfl
    · have hv : 0 ≤ s ∧ c = 0 := by unfold Rc.May at hm; simp only at hm; omega
      obtain ⟨hs, rfl⟩ := hv
      obtain ⟨m, rfl⟩ : ∃ m : Nat, s = (m : Int) := ⟨s.toNat, by omega⟩
      have h1 : appE S ⟨1, (n : Int), (m : Int), u, 0⟩ = holdE S ⟨1, (n : Int), (m : Int), u, 0⟩ := by unfold appE; rw [if_neg (fun e => e hm)]; rfl
      rw [h1, hE (S'' := S) (S' := if holdE S ⟨1, (n : Int), (m : Int), u, 0⟩ = 0 then { S with L := S.L ++ [⟨n, m, u⟩], n := S.n + 1 } else S) h1 (fun e => by rw [if_pos e]; rfl) (fun e => if_neg e)]
      exact apply_1 h ho hK n m u (by omega) hr hm hT
    · have hv : s = 0 ∧ u = 0 ∧ c = 0 := by unfold Rc.May at hm; simp only at hm; omega
      obtain ⟨rfl, rfl, rfl⟩ := hv
      have h1 : appE S ⟨2, (n : Int), 0, 0, 0⟩ = if (fnd S.L n).isSome then 0 else 171 := by unfold appE; rw [if_neg (fun e => e hm)]; rfl
      rw [h1, hE (S'' := S) (S' := { S with L := (fnd S.L n).elim S.L fun x => upd S.L x.i { x with u := 0 } }) h1 (fun e => rfl) (fun e => by
        cases hf : fnd S.L n with
        | none => rfl
        | some x => rw [hf] at e; exact absurd rfl e)]
      exact apply_2 h ho hK n (by omega) hr hm hT
    · have hv : s = 0 ∧ u = 0 ∧ c = 0 := by unfold Rc.May at hm; simp only at hm; omega
      obtain ⟨rfl, rfl, rfl⟩ := hv
      have h1 : appE S ⟨3, (n : Int), 0, 0, 0⟩ = if (fnd S.L n).isSome then 0 else 171 := by unfold appE; rw [if_neg (fun e => e hm)]; rfl
      rw [h1, hE (S'' := S) (S' := { S with L := del S.L n }) h1 (fun e => rfl) (fun e => by
        cases hf : fnd S.L n with
        | none =>
          have : del S.L n = S.L := by
            unfold del
            rw [List.filter_eq_self]
            intro y hy
            simpa using fnd_none.1 hf y hy
          rw [this]
        | some x => rw [hf] at e; exact absurd rfl e)]
      exact apply_3 h ho hK n (by omega) hr hm hT
    · have hv : 0 ≤ s ∧ u = 0 ∧ c = 0 := by unfold Rc.May at hm; simp only at hm; omega
      obtain ⟨hs, rfl, rfl⟩ := hv
      obtain ⟨m, rfl⟩ : ∃ m : Nat, s = (m : Int) := ⟨s.toNat, by omega⟩
      have h1 : appE S ⟨4, (n : Int), (m : Int), 0, 0⟩ = reseatE S n m := by unfold appE; rw [if_neg (fun e => e hm)]; rfl
      rw [h1, hE (S'' := S) (S' := if reseatE S n m = 0 then { S with L := (fnd S.L n).elim S.L fun x => upd S.L x.i { x with s := m } } else S) h1 (fun e => by rw [if_pos e]; rfl) (fun e => if_neg e)]
      exact apply_4 h ho hK n m (by omega) hr hm hT
    · have hv : n = 0 ∧ s = 0 ∧ u = 0 ∧ c ≤ mxC := by unfold Rc.May at hm; simp only at hm; omega
      obtain ⟨rfl, rfl, rfl, hc⟩ := hv
      have h1 : appE S ⟨5, ((0 : Nat) : Int), 0, 0, c⟩ = if c ≤ S.t then 173 else 0 := by unfold appE; rw [if_neg (fun e => e hm)]; rfl
      rw [h1, hE (S'' := S) (S' := if c ≤ S.t then S else { S with L := tik S.L c, t := c }) h1 (fun e => by
        by_cases h5 : c ≤ S.t
        · rw [if_pos h5] at e; cases e
        · rw [if_neg h5]; rfl) (fun e => by
        by_cases h5 : c ≤ S.t
        · rw [if_pos h5]
        · rw [if_neg h5] at e; exact absurd rfl e)]
      exact apply_5 h ho hK c hc hr hm hT
  · have h1 : appE S ⟨k, i, s, u, c⟩ = 160 := by unfold appE; rw [if_pos hm]
    rw [h1, app_no (by rw [h1]; decide)]
    exact apply_0 h k i s u c hr hm hT
end
end Go.Proofs.YtcbiloomnkbalaaGreatDoor
