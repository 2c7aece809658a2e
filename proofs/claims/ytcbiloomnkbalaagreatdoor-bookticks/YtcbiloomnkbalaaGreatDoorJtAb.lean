/- Texts joined: BkS. -/
import Derived.Test.YtcbiloomnkbalaaGreatDoorJtAa
/- BookTicks, walked. -/
namespace Go.Proofs.YtcbiloomnkbalaaGreatDoor
open Go.RowKit
attribute [local go_sem ↓] Go.wp_at_zero Go.wp_at_succ
attribute [local go_sem] Oper.semAt_some
set_option maxRecDepth 20000 in
set_option maxHeartbeats 32000000 in
theorem ticks_any {w : World} {ao : Option Addr} {len cap : Nat} {rs : List Rc} (hl : rs.length = len) (hR : RecsAt w ao rs) (hO : ∀ r ∈ rs, r.Ok) (hT : Rk.Tab w) {first last : Int} (hf0 : -9223372036854775808 ≤ first) (hf1 : first ≤ 9223372036854775807) (hl0 : -9223372036854775808 ≤ last) (hl1 : last ≤ 9223372036854775807) : Calls Tryz.prog 7 #[.slice ao len cap, .int .i64 first, .int .i64 last] w fun e w' => e = .returned (.bool true) ∧ w.grownBy w' none := by
  have HAw := hide (awake_any w hT)
  have HMd : Hid (∀ W, w.grownBy W none → Calls Tryz.prog 25 #[.slice ao len cap] W fun e w' => ∃ b S p, e = .returned (.tuple #[.pointer (some ⟨b, 0, none⟩), .bool true]) ∧ S.Mk ∧ Lk w w' b S 300 p []) := by
    intro W g
    refine (made_any hl (hR.grown g) hO (hT.grown g (by simp))).mono ?_
    rintro e w' ⟨b, S, p, rfl, h1, h2⟩
    exact ⟨b, S, p, rfl, h1, h2.base g⟩
  have HAp : Hid (∀ W b S K p Bs, S.Ok → K ≤ 10000 → Lk w W b S K p Bs → ∀ c : Int, -9223372036854775808 ≤ c → c ≤ 9223372036854775807 → Calls Tryz.prog 36 #[.pointer (some ⟨b, 0, none⟩), .agg #[.int .i64 5, .int .u32 0, .int .i64 0, .int .i64 0, .int .i64 c]] W fun e w' => e = .returned (.int .i64 (appE S (tkR c))) ∧ ∃ q, Lk w w' b (app S (tkR c)) (K + 1) q Bs ∧ Bst W w' p q) := fun W b S K p Bs ho hk h c h0 h1 => h.apply ho (by omega) hT (tkR c) (tkR_ok h0 h1)
  have HI := hide (And.intro hf0 (And.intro hf1 (And.intro hl0 hl1)))
  clear hl hR hO hT hf0 hf1 hl0 hl1
  go_enter Tryz.func7, Tryz.ntmps7
  go_wp2_with fail
  refine HAw.out.mono ?_
  rintro e w1 ⟨rfl, hg1⟩
  go_wp2_with fail
  refine (HMd.out _ hg1).mono ?_
  rintro e w2 ⟨b, S, p, rfl, hM, hh⟩
  have HM := hide hM
  have H2 := hide hh
  clear HMd HAw hg1 hh hM
  go_wp2_with fail
  refine (H2.out.all HM.out.1.wk).mono ?_
  rintro e w3 ⟨u, rfl, hV, hh⟩
  have H3 := hide (And.intro hV hh)
  clear hV hh H2
  go_wp2_with fail
  refine (told_any H3.out.1 (by have := HM.out.1.few; have := HM.out.2.2.1; omega)).mono ?_
  rintro e w4 ⟨v, rfl, hr, hg4⟩
  obtain ⟨vo, vcap, Rb, rfl, h4, hcl⟩ := (H3.out.2.then hg4).row hr H3.out.2.bk.lt H3.out.2.gr.size
  simp only [List.append_nil] at h4 hcl
  have H4 := hide h4
  have HRow := hide hcl
  have hn8 : S.L.length ≤ 8 := by have := HM.out.1.few; have := HM.out.2.2.1; omega
  clear H3 hr hg4 h4 hcl
  generalize hnn : S.L.length = n at *
  have HN := hide hnn
  clear hnn
  go_wp2_with fail
  refine H4.out.clock.mono ?_
  rintro e w5 ⟨rfl, rfl⟩
  go_wp2_with fail
  refine H4.out.next.mono ?_
  rintro e w6 ⟨rfl, rfl⟩
  go_wp2_with fail
  refine (H4.out.copy2 HM.out.1.wk).mono ?_
  rintro e w7 ⟨cb, q, rfl, hp, hq, hd⟩
  have H5 := hide (And.intro hp (And.intro hq hd))
  clear hp hq hd H4
  by_cases hfl : first < last
  · go_wp2_with fail
    refine (HAp.out _ _ _ _ _ _ HM.out.1 (by omega) H5.out.2.1 first HI.out.1 HI.out.2.1).mono ?_
    rintro e w8 ⟨rfl, q2, hq2, hs2⟩
    have H6 := hide (And.intro (H5.out.1.beside H5.out.2.1 H5.out.2.2 hs2) hq2)
    have HTwo := hide (fun (a : 1 ≤ last ∧ last ≤ mxC) (b : S.t < last) => tk_two hfl a (Int.not_le.2 b))
    have HO1 := hide (HM.out.1.app (tkR first))
    clear hq2 hs2 H5
    generalize appE S (tkR first) = e1
    generalize app S (tkR first) = Sc at *
    go_wp2_with fail
    refine (HAp.out _ _ _ _ _ _ HO1.out (by omega) H6.out.2 last HI.out.2.2.1 HI.out.2.2.2).mono ?_
    rintro e w9 ⟨rfl, q3, hq3, hs3⟩
    have H7 := hide (And.intro (H6.out.1.1.beside H6.out.2 H6.out.1.2 hs3) hq3)
    clear hq3 hs3 H6
    go_wp2_with fail
    refine (HAp.out _ _ _ _ _ _ HM.out.1 (by omega) H7.out.1.1 last HI.out.2.2.1 HI.out.2.2.2).mono ?_
    rintro e w10 ⟨rfl, pp, hp4, hs4⟩
    have HT := hide (And.intro hp4 (H7.out.2.beside H7.out.1.1 (fun i a b => H7.out.1.2 i b a) hs4))
    clear hp4 hs4 H7 HAp HO1
    by_cases hr1 : last < 1
    · have he : appE S (tkR last) = 160 := tk_bad (by omega)
      have hS : app S (tkR last) = S := app_no (by rw [he]; decide)
      rw [hS] at HT
      rw [he]
      clear hS he
      go_wp2_with fail
      refine HT.out.1.clock.mono ?_
      rintro e w8 ⟨rfl, rfl⟩
      have HE := hide HT.out.1.gr
      clear HT
      go_wp2
      go_ret
      exact ⟨rfl, HE.out⟩
    · by_cases hr2 : 1099511627776 < last
      · have he : appE S (tkR last) = 160 := tk_bad (by simp only [mxC]; omega)
        have hS : app S (tkR last) = S := app_no (by rw [he]; decide)
        rw [hS] at HT
        rw [he]
        clear hS he
        go_wp2_with fail
        refine HT.out.1.clock.mono ?_
        rintro e w8 ⟨rfl, rfl⟩
        have HE := hide HT.out.1.gr
        clear HT
        go_wp2
        go_ret
        exact ⟨rfl, HE.out⟩
      · have hrg : 1 ≤ last ∧ last ≤ mxC := by simp only [mxC]; omega
        by_cases hr3 : last ≤ S.t
        · have he : appE S (tkR last) = 173 := tk_past hrg hr3
          have hS : app S (tkR last) = S := app_no (by rw [he]; decide)
          rw [hS] at HT
          rw [he]
          clear hS he
          go_wp2_with fail
          refine HT.out.1.clock.mono ?_
          rintro e w8 ⟨rfl, rfl⟩
          have HE := hide HT.out.1.gr
          clear HT
          go_wp2
          go_ret
          exact ⟨rfl, HE.out⟩
        · obtain ⟨he, hTT⟩ := tk_ok hrg hr3
          obtain ⟨hf, hSc⟩ := HTwo.out hrg (by omega)
          rw [hSc] at HT
          rw [he, hf]
          obtain ⟨T, hT0⟩ : ∃ T, app S (tkR last) = T := ⟨_, rfl⟩
          rw [hT0] at HT hTT
          have HTo := hide (show T.Ok by rw [← hT0]; exact HM.out.1.app _)
          have hT1 : T.t = last := by rw [hTT]
          have hT2 : T.n = S.n := by rw [hTT]
          have HTL := hide (show T.L = tik S.L last by rw [hTT])
          clear hTT hT0 hSc he hf HTwo
          have HCl := hide HT.out.1.clock
          have HNx := hide HT.out.1.next
          have HSm := hide (HT.out.1.same HT.out.2.1 HTo.out.wk)
          rw [hT1] at HCl
          rw [hT2] at HNx
          have HG : Hid (∀ W Bs j, Lk w W b T 301 pp Bs → j < S.L.length → Calls Tryz.prog 29 #[.pointer (some ⟨b, 0, none⟩), .int .u32 ((rd S.L j).i : Int)] W fun e w' => e = .returned (.tuple #[bgV ((if (rd S.L j).u = 0 ∨ last < (rd S.L j).u then some (rd S.L j) else none).getD ⟨0, 0, 0⟩), .int .i64 (if (if (rd S.L j).u = 0 ∨ last < (rd S.L j).u then some (rd S.L j) else none).isSome then 0 else 171)]) ∧ Lk w w' b T 301 pp Bs) := by
            intro W Bs j h hj
            have hm := rd_mem hj
            have := h.get HTo.out.wk (rd S.L j).i (by have := HM.out.1.id _ hm; have := HM.out.1.n1; omega)
            rw [HTL.out, fnd_tik HM.out.1.asc hm] at this
            exact this
          have HLn : Hid (∀ W Bs, Lk w W b T 301 pp Bs → Calls Tryz.prog 28 #[.pointer (some ⟨b, 0, none⟩)] W fun e w' => e = .returned (.int .i64 ((tik S.L last).length : Int)) ∧ w' = W) := by
            intro W Bs h
            have := h.len
            rw [HTL.out] at this
            exact this
          go_wp2_with fail
          refine HCl.out.mono ?_
          rintro e w8 ⟨rfl, rfl⟩
          go_wp2_with fail
          refine HNx.out.mono ?_
          rintro e w9 ⟨rfl, rfl⟩
          go_wp2_with fail
          refine HSm.out.mono ?_
          rintro e w10 ⟨rfl, hg10⟩
          have H10 := hide (HT.out.1.then hg10)
          clear HCl HNx HSm HT hg10 hT1 hT2
          go_wp2
          go_loopg [16, 17] n (fun k c i wr => ∃ j c0 : Nat, k + j = n ∧ i = .int .i64 j ∧ c = .int .i64 (c0 : Int) ∧ Hid (c0 = (tik (S.L.take j) last).length) ∧ ∃ Bs, Hid (Lk w wr b T 301 pp Bs ∧ ∀ x ∈ Rb, x ∈ Bs))
          case atStart => exact ⟨0, 0, by omega, rfl, rfl, rfl, _, H10.out, fun x hx => hx⟩
          case round =>
            clear H10
            obtain ⟨j, c0, hkj, rfl, rfl, HC0, Bs, HB⟩ := hrel
            by_cases hk : 0 < gk
            · have hj : j < S.L.length := by rw [HN.out]; omega
              have HJ := hide hj
              have h1 : (0 : Int) ≤ (j : Int) := by omega
              have h2 : (j : Int) < (n : Int) := by omega
              have hc8 : c0 ≤ 4294967296 := by
                rw [HC0.out]
                exact Nat.le_trans (List.length_filter_le _ _) (by rw [List.length_take]; have := HN.out; omega)
              obtain ⟨g, cs, rfl, hm, t0, t1, t2⟩ := HRow.out j (by omega)
              have x0 := HB.out.1.cell (HB.out.2 _ hm) _ _ t0
              have HB1 := hide HB.out.1
              have HG' := hide (fun W Bs h => HG.out W Bs j h (by omega))
              obtain ⟨xx, hxx⟩ : ∃ xx, rd S.L j = xx := ⟨_, rfl⟩
              rw [hxx] at x0 t0 t1 t2 HG'
              obtain ⟨xi, xs, xu⟩ := xx
              simp only at x0 t0 t1 t2 HG'
              have HRd := hide hxx
              clear hxx hj HG HRow
              by_cases hz : xu = 0
              · subst hz
                have HS : Hid ((0 : Int) = 0 ∨ last < 0) := .inl rfl
                rw [if_pos HS.out] at HG'
                simp only [Option.getD, Option.isSome, if_true, bgV] at HG'
                have HCt := hide (show c0 + 1 = (tik (S.L.take (j + 1)) last).length by rw [← take_rd HJ.out, tik_snoc, HRd.out, if_pos HS.out, HC0.out])
                go_wp2_with fail
                refine (HG'.out _ _ HB1.out).mono ?_
                rintro e w6 ⟨rfl, hh⟩
                have hh2 := hh.box [.int .u32 (xi : Int), .int .i64 (xs : Int), .int .i64 0] 78
                have r0 := hh2.cell (List.mem_cons_of_mem _ (HB.out.2 _ hm)) _ _ t0
                have r1 := hh2.cell (List.mem_cons_of_mem _ (HB.out.2 _ hm)) _ _ t1
                have r2 := hh2.cell (List.mem_cons_of_mem _ (HB.out.2 _ hm)) _ _ t2
                have HSub := hide HB.out.2
                clear x0 HB1 HB hh HG'
                go_wp2
                generalize World.alloc w6 _ = w8 at *
                generalize w6.heap.size = X1 at *
                obtain ⟨Cs, HF5⟩ : ∃ Cs, Hid (Lk w w8.drew b T 301 pp Cs ∧ ∀ x ∈ Rb, x ∈ Cs) := ⟨_, hh2.drew, fun x hx => List.mem_cons_of_mem _ (HSub.out x hx)⟩
                have hK := And.intro (hh2.cell List.mem_cons_self 0 _ rfl) (And.intro (hh2.cell List.mem_cons_self 1 _ rfl) (And.intro (hh2.cell List.mem_cons_self 2 _ rfl) (And.intro r0 (And.intro r1 r2))))
                clear hh2 HSub r0 r1 r2
                refine wp_region_held_drew (S := (fun W => W.cell? ⟨X1, 0, none⟩ = some (.int .u32 (xi : Int)) ∧ W.cell? ⟨X1, 1, none⟩ = some (.int .i64 (xs : Int)) ∧ W.cell? ⟨X1, 2, none⟩ = some (.int .i64 0) ∧ W.cell? ⟨g, j * 3, none⟩ = some (.int .u32 (xi : Int)) ∧ W.cell? ⟨g, j * 3 + 1, none⟩ = some (.int .i64 (xs : Int)) ∧ W.cell? ⟨g, j * 3 + 2, none⟩ = some (.int .i64 0))) (by kernel_rfl) ?_ (fun hHeld => ?_)
                · (exact hK)
                refine wpAnyH_take (i := 0) (oi := { dst := some 137, op := Go.Op.move (Go.Operand.tmp 20), type := 4, pos := "outright.go:129", after := #[], guard := none }) (v := ?_) rfl (by kernel_rfl) (by kernel_rfl) (by kernel_rfl) (fun _ _ _ h => h) (Or.inl ⟨by rfl, ?_⟩) (by assumption) ?_
                rotate_left
                · (intro w hSw; (try dsimp only at hSw); (go_simp <;> with_reducible rfl))
                try simp only [Act.put, List.setIfInBounds_toArray, List.set_cons_zero, List.set_cons_succ]
                refine wpAnyH_take (i := 1) (oi := { dst := some 138, op := Go.Op.move (Go.Operand.tmp 19), type := 32, pos := "outright.go:129", after := #[], guard := none }) (v := ?_) rfl (by kernel_rfl) (by kernel_rfl) (by kernel_rfl) (fun _ _ _ h => h) (Or.inl ⟨by rfl, ?_⟩) (by assumption) ?_
                rotate_left
                · (intro w hSw; (try dsimp only at hSw); (go_simp <;> with_reducible rfl))
                try simp only [Act.put, List.setIfInBounds_toArray, List.set_cons_zero, List.set_cons_succ]
                refine wpAnyH_take (i := 2) (oi := { dst := some 139, op := Go.Op.binOp Go.BinOp.eql 32 (Go.Operand.tmp 138) (Go.Operand.const (Go.Value.int Go.IntKind.i64 0)) 32, type := 4, pos := "outright.go:129", after := #[{ on := 1, ground := Go.Ground.data }], guard := none }) (v := ?_) rfl (by kernel_rfl) (by kernel_rfl) (by kernel_rfl) (fun _ _ _ h => h) (Or.inl ⟨by rfl, ?_⟩) (by assumption) ?_
                rotate_left
                · (intro w hSw; (try dsimp only at hSw); (go_simp <;> with_reducible rfl))
                try simp only [Act.put, List.setIfInBounds_toArray, List.set_cons_zero, List.set_cons_succ]
                refine wpAnyH_take (i := 3) (oi := { dst := some 140, op := Go.Op.binOp Go.BinOp.neq 4 (Go.Operand.tmp 137) (Go.Operand.tmp 139) 4, type := 4, pos := "outright.go:129", after := #[{ on := 0, ground := Go.Ground.data }, { on := 2, ground := Go.Ground.data }], guard := none }) (v := ?_) rfl (by kernel_rfl) (by kernel_rfl) (by kernel_rfl) (fun _ _ _ h => h) (Or.inl ⟨by rfl, ?_⟩) (by assumption) ?_
                rotate_left
                · (intro w hSw; (try dsimp only at hSw); (go_simp <;> with_reducible rfl))
                try simp only [Act.put, List.setIfInBounds_toArray, List.set_cons_zero, List.set_cons_succ]
                refine wpAnyH_take (i := 4) (oi := { dst := some 141, op := Go.Op.move (Go.Operand.tmp 140), type := 4, pos := "outright.go:129", after := #[{ on := 3, ground := Go.Ground.data }], guard := none }) (v := ?_) rfl (by kernel_rfl) (by kernel_rfl) (by kernel_rfl) (fun _ _ _ h => h) (Or.inl ⟨by rfl, ?_⟩) (by assumption) ?_
                rotate_left
                · (intro w hSw; (try dsimp only at hSw); (go_simp <;> with_reducible rfl))
                try simp only [Act.put, List.setIfInBounds_toArray, List.set_cons_zero, List.set_cons_succ]
                refine wpAnyH_take (i := 5) (oi := { dst := some 142, op := Go.Op.move (Go.Operand.tmp 20), type := 4, pos := "outright.go:129", after := #[{ on := 4, ground := Go.Ground.guard }], guard := some (4, false) }) (v := ?_) rfl (by kernel_rfl) (by kernel_rfl) (by kernel_rfl) (fun _ _ _ h => h) (Or.inl ⟨by rfl, ?_⟩) (by assumption) ?_
                rotate_left
                · (intro w hSw; (try dsimp only at hSw); (go_simp <;> with_reducible rfl))
                try simp only [Act.put, List.setIfInBounds_toArray, List.set_cons_zero, List.set_cons_succ]
                refine wpAnyH_take (i := 6) (oi := { dst := some 143, op := Go.Op.move (Go.Operand.tmp 142), type := 4, pos := "outright.go:129", after := #[{ on := 5, ground := Go.Ground.data }, { on := 4, ground := Go.Ground.chain }, { on := 4, ground := Go.Ground.guard }], guard := some (4, false) }) (v := ?_) rfl (by kernel_rfl) (by kernel_rfl) (by kernel_rfl) (fun _ _ _ h => h) (Or.inl ⟨by rfl, ?_⟩) (by assumption) ?_
                rotate_left
                · (intro w hSw; (try dsimp only at hSw); (go_simp <;> with_reducible rfl))
                try simp only [Act.put, List.setIfInBounds_toArray, List.set_cons_zero, List.set_cons_succ]
                refine wpAnyH_take (i := 7) (oi := { dst := some 144, op := Go.Op.load 78 (Go.Operand.tmp 18), type := 78, pos := "outright.go:129", after := #[{ on := 6, ground := Go.Ground.guard }], guard := some (6, true) }) (v := ?_) rfl (by kernel_rfl) (by kernel_rfl) (by kernel_rfl) (fun _ _ _ h => h) (Or.inl ⟨by rfl, ?_⟩) (by assumption) ?_
                rotate_left
                · (intro w hSw; (try dsimp only at hSw); (go_simp <;> with_reducible rfl))
                try simp only [Act.put, List.setIfInBounds_toArray, List.set_cons_zero, List.set_cons_succ]
                refine wpAnyH_take (i := 8) (oi := { dst := some 145, op := Go.Op.move (Go.Operand.tmp 9), type := 25, pos := "outright.go:129", after := #[{ on := 6, ground := Go.Ground.guard }], guard := some (6, true) }) (v := ?_) rfl (by kernel_rfl) (by kernel_rfl) (by kernel_rfl) (fun _ _ _ h => h) (Or.inl ⟨by rfl, ?_⟩) (by assumption) ?_
                rotate_left
                · (intro w hSw; (try dsimp only at hSw); (go_simp <;> with_reducible rfl))
                try simp only [Act.put, List.setIfInBounds_toArray, List.set_cons_zero, List.set_cons_succ]
                refine wpAnyH_take (i := 9) (oi := { dst := some 146, op := Go.Op.move (Go.Operand.tmp 17), type := 3, pos := "outright.go:129", after := #[{ on := 6, ground := Go.Ground.guard }], guard := some (6, true) }) (v := ?_) rfl (by kernel_rfl) (by kernel_rfl) (by kernel_rfl) (fun _ _ _ h => h) (Or.inl ⟨by rfl, ?_⟩) (by assumption) ?_
                rotate_left
                · (intro w hSw; (try dsimp only at hSw); (go_simp <;> with_reducible rfl))
                try simp only [Act.put, List.setIfInBounds_toArray, List.set_cons_zero, List.set_cons_succ]
                refine wpAnyH_take (i := 10) (oi := { dst := some 147, op := Go.Op.indexAddr 25 (Go.Operand.tmp 145) (Go.Operand.tmp 146), type := 0, pos := "outright.go:129", after := #[{ on := 8, ground := Go.Ground.data }, { on := 9, ground := Go.Ground.data }, { on := 6, ground := Go.Ground.guard }], guard := some (6, true) }) (v := ?_) rfl (by kernel_rfl) (by kernel_rfl) (by kernel_rfl) (fun _ _ _ h => h) (Or.inl ⟨by rfl, ?_⟩) (by assumption) ?_
                rotate_left
                · (intro w hSw; (try dsimp only at hSw); (go_simp <;> with_reducible rfl))
                try simp only [Act.put, List.setIfInBounds_toArray, List.set_cons_zero, List.set_cons_succ]
                refine wpAnyH_take (i := 11) (oi := { dst := some 148, op := Go.Op.load 78 (Go.Operand.tmp 147), type := 78, pos := "outright.go:129", after := #[{ on := 10, ground := Go.Ground.data }, { on := 6, ground := Go.Ground.guard }], guard := some (6, true) }) (v := ?_) rfl (by kernel_rfl) (by kernel_rfl) (by kernel_rfl) (fun _ _ _ h => h) (Or.inl ⟨by rfl, ?_⟩) (by assumption) ?_
                rotate_left
                · (intro w hSw; (try dsimp only at hSw); (go_simp <;> with_reducible rfl))
                try simp only [Act.put, List.setIfInBounds_toArray, List.set_cons_zero, List.set_cons_succ]
                refine wpAnyH_take (i := 12) (oi := { dst := some 149, op := Go.Op.binOp Go.BinOp.neq 78 (Go.Operand.tmp 144) (Go.Operand.tmp 148) 78, type := 4, pos := "outright.go:129", after := #[{ on := 7, ground := Go.Ground.data }, { on := 11, ground := Go.Ground.data }, { on := 6, ground := Go.Ground.guard }], guard := some (6, true) }) (v := ?_) rfl (by kernel_rfl) (by kernel_rfl) (by kernel_rfl) (fun _ _ _ h => h) (Or.inl ⟨by rfl, ?_⟩) (by assumption) ?_
                rotate_left
                · (intro w hSw; refine neq_op (x := .tmp 144) (y := .tmp 148) (p := (xi : Int)) (q := (xs : Int)) (r := 0) ?_ ?_ ?_ w <;> rfl)
                try simp only [Act.put, List.setIfInBounds_toArray, List.set_cons_zero, List.set_cons_succ]
                refine wpAnyH_take (i := 13) (oi := { dst := some 150, op := Go.Op.pick (Go.Operand.tmp 143) (Go.Operand.tmp 149) (Go.Operand.const (Go.Value.bool false)), type := 4, pos := "outright.go:129", after := #[{ on := 6, ground := Go.Ground.data }, { on := 12, ground := Go.Ground.data }, { on := 4, ground := Go.Ground.guard }], guard := some (4, false) }) (v := ?_) rfl (by kernel_rfl) (by kernel_rfl) (by kernel_rfl) (fun _ _ _ h => h) (Or.inl ⟨by rfl, ?_⟩) (by assumption) ?_
                rotate_left
                · (intro w hSw; (try dsimp only at hSw); (go_simp <;> with_reducible rfl))
                try simp only [Act.put, List.setIfInBounds_toArray, List.set_cons_zero, List.set_cons_succ]
                refine wpAnyH_take (i := 14) (oi := { dst := some 151, op := Go.Op.pick (Go.Operand.tmp 141) (Go.Operand.const (Go.Value.bool true)) (Go.Operand.tmp 150), type := 4, pos := "outright.go:129", after := #[{ on := 4, ground := Go.Ground.data }, { on := 13, ground := Go.Ground.data }], guard := none }) (v := ?_) rfl (by kernel_rfl) (by kernel_rfl) (by kernel_rfl) (fun _ _ _ h => h) (Or.inl ⟨by rfl, ?_⟩) (by assumption) ?_
                rotate_left
                · (intro w hSw; (try dsimp only at hSw); (go_simp <;> with_reducible rfl))
                try simp only [Act.put, List.setIfInBounds_toArray, List.set_cons_zero, List.set_cons_succ]
                refine wpAnyH_done (by kernel_rfl) ?_ _
                go_wp2
                go_roundg (gk - 1)
                case measure => omega
                case rel => exact ⟨j + 1, c0 + 1, by omega, by go_num, by go_num, HCt.out, Cs, HF5.out⟩
              · have hz1 : (xu == 0) = false := by simpa using hz
                have hz2 : decide (xu = 0) = false := by simpa using hz
                by_cases hlt : last < xu
                · have HS : Hid (xu = 0 ∨ last < xu) := .inr hlt
                  have d1 : decide (last < xu) = true := decide_eq_true hlt
                  have d2 : decide (xu > last) = true := d1
                  rw [if_pos HS.out] at HG'
                  simp only [Option.getD, Option.isSome, if_true, bgV] at HG'
                  have HCt := hide (show c0 + 1 = (tik (S.L.take (j + 1)) last).length by rw [← take_rd HJ.out, tik_snoc, HRd.out, if_pos HS.out, HC0.out])
                  go_wp2_with fail
                  refine (HG'.out _ _ HB1.out).mono ?_
                  rintro e w6 ⟨rfl, hh⟩
                  have hh2 := hh.box [.int .u32 (xi : Int), .int .i64 (xs : Int), .int .i64 xu] 78
                  have r0 := hh2.cell (List.mem_cons_of_mem _ (HB.out.2 _ hm)) _ _ t0
                  have r1 := hh2.cell (List.mem_cons_of_mem _ (HB.out.2 _ hm)) _ _ t1
                  have r2 := hh2.cell (List.mem_cons_of_mem _ (HB.out.2 _ hm)) _ _ t2
                  have HSub := hide HB.out.2
                  clear x0 HB1 HB hh HG'
                  go_wp2
                  generalize World.alloc w6 _ = w8 at *
                  generalize w6.heap.size = X1 at *
                  obtain ⟨Cs, HF5⟩ : ∃ Cs, Hid (Lk w w8.drew b T 301 pp Cs ∧ ∀ x ∈ Rb, x ∈ Cs) := ⟨_, hh2.drew, fun x hx => List.mem_cons_of_mem _ (HSub.out x hx)⟩
                  have hK := And.intro (hh2.cell List.mem_cons_self 0 _ rfl) (And.intro (hh2.cell List.mem_cons_self 1 _ rfl) (And.intro (hh2.cell List.mem_cons_self 2 _ rfl) (And.intro r0 (And.intro r1 r2))))
                  clear hh2 HSub r0 r1 r2
                  refine wp_region_held_drew (S := (fun W => W.cell? ⟨X1, 0, none⟩ = some (.int .u32 (xi : Int)) ∧ W.cell? ⟨X1, 1, none⟩ = some (.int .i64 (xs : Int)) ∧ W.cell? ⟨X1, 2, none⟩ = some (.int .i64 xu) ∧ W.cell? ⟨g, j * 3, none⟩ = some (.int .u32 (xi : Int)) ∧ W.cell? ⟨g, j * 3 + 1, none⟩ = some (.int .i64 (xs : Int)) ∧ W.cell? ⟨g, j * 3 + 2, none⟩ = some (.int .i64 xu))) (by kernel_rfl) ?_ (fun hHeld => ?_)
                  · (exact hK)
                  refine wpAnyH_take (i := 0) (oi := { dst := some 137, op := Go.Op.move (Go.Operand.tmp 20), type := 4, pos := "outright.go:129", after := #[], guard := none }) (v := ?_) rfl (by kernel_rfl) (by kernel_rfl) (by kernel_rfl) (fun _ _ _ h => h) (Or.inl ⟨by rfl, ?_⟩) (by assumption) ?_
                  rotate_left
                  · (intro w hSw; (try dsimp only at hSw); (go_simp <;> with_reducible rfl))
                  try simp only [Act.put, List.setIfInBounds_toArray, List.set_cons_zero, List.set_cons_succ]
                  refine wpAnyH_take (i := 1) (oi := { dst := some 138, op := Go.Op.move (Go.Operand.tmp 19), type := 32, pos := "outright.go:129", after := #[], guard := none }) (v := ?_) rfl (by kernel_rfl) (by kernel_rfl) (by kernel_rfl) (fun _ _ _ h => h) (Or.inl ⟨by rfl, ?_⟩) (by assumption) ?_
                  rotate_left
                  · (intro w hSw; (try dsimp only at hSw); (go_simp <;> with_reducible rfl))
                  try simp only [Act.put, List.setIfInBounds_toArray, List.set_cons_zero, List.set_cons_succ]
                  refine wpAnyH_take (i := 2) (oi := { dst := some 139, op := Go.Op.binOp Go.BinOp.eql 32 (Go.Operand.tmp 138) (Go.Operand.const (Go.Value.int Go.IntKind.i64 0)) 32, type := 4, pos := "outright.go:129", after := #[{ on := 1, ground := Go.Ground.data }], guard := none }) (v := ?_) rfl (by kernel_rfl) (by kernel_rfl) (by kernel_rfl) (fun _ _ _ h => h) (Or.inl ⟨by rfl, ?_⟩) (by assumption) ?_
                  rotate_left
                  · (intro w hSw; (try dsimp only at hSw); (go_simp <;> with_reducible rfl))
                  try simp only [Act.put, List.setIfInBounds_toArray, List.set_cons_zero, List.set_cons_succ]
                  refine wpAnyH_take (i := 3) (oi := { dst := some 140, op := Go.Op.binOp Go.BinOp.neq 4 (Go.Operand.tmp 137) (Go.Operand.tmp 139) 4, type := 4, pos := "outright.go:129", after := #[{ on := 0, ground := Go.Ground.data }, { on := 2, ground := Go.Ground.data }], guard := none }) (v := ?_) rfl (by kernel_rfl) (by kernel_rfl) (by kernel_rfl) (fun _ _ _ h => h) (Or.inl ⟨by rfl, ?_⟩) (by assumption) ?_
                  rotate_left
                  · (intro w hSw; (try dsimp only at hSw); (go_simp <;> with_reducible rfl))
                  try simp only [Act.put, List.setIfInBounds_toArray, List.set_cons_zero, List.set_cons_succ]
                  refine wpAnyH_take (i := 4) (oi := { dst := some 141, op := Go.Op.move (Go.Operand.tmp 140), type := 4, pos := "outright.go:129", after := #[{ on := 3, ground := Go.Ground.data }], guard := none }) (v := ?_) rfl (by kernel_rfl) (by kernel_rfl) (by kernel_rfl) (fun _ _ _ h => h) (Or.inl ⟨by rfl, ?_⟩) (by assumption) ?_
                  rotate_left
                  · (intro w hSw; (try dsimp only at hSw); (go_simp <;> with_reducible rfl))
                  try simp only [Act.put, List.setIfInBounds_toArray, List.set_cons_zero, List.set_cons_succ]
                  refine wpAnyH_take (i := 5) (oi := { dst := some 142, op := Go.Op.move (Go.Operand.tmp 20), type := 4, pos := "outright.go:129", after := #[{ on := 4, ground := Go.Ground.guard }], guard := some (4, false) }) (v := ?_) rfl (by kernel_rfl) (by kernel_rfl) (by kernel_rfl) (fun _ _ _ h => h) (Or.inl ⟨by rfl, ?_⟩) (by assumption) ?_
                  rotate_left
                  · (intro w hSw; (try dsimp only at hSw); (go_simp <;> with_reducible rfl))
                  try simp only [Act.put, List.setIfInBounds_toArray, List.set_cons_zero, List.set_cons_succ]
                  refine wpAnyH_take (i := 6) (oi := { dst := some 143, op := Go.Op.move (Go.Operand.tmp 142), type := 4, pos := "outright.go:129", after := #[{ on := 5, ground := Go.Ground.data }, { on := 4, ground := Go.Ground.chain }, { on := 4, ground := Go.Ground.guard }], guard := some (4, false) }) (v := ?_) rfl (by kernel_rfl) (by kernel_rfl) (by kernel_rfl) (fun _ _ _ h => h) (Or.inl ⟨by rfl, ?_⟩) (by assumption) ?_
                  rotate_left
                  · (intro w hSw; (try dsimp only at hSw); (go_simp <;> with_reducible rfl))
                  try simp only [Act.put, List.setIfInBounds_toArray, List.set_cons_zero, List.set_cons_succ]
                  refine wpAnyH_take (i := 7) (oi := { dst := some 144, op := Go.Op.load 78 (Go.Operand.tmp 18), type := 78, pos := "outright.go:129", after := #[{ on := 6, ground := Go.Ground.guard }], guard := some (6, true) }) (v := ?_) rfl (by kernel_rfl) (by kernel_rfl) (by kernel_rfl) (fun _ _ _ h => h) (Or.inl ⟨by rfl, ?_⟩) (by assumption) ?_
                  rotate_left
                  · (intro w hSw; (try dsimp only at hSw); (go_simp <;> with_reducible rfl))
                  try simp only [Act.put, List.setIfInBounds_toArray, List.set_cons_zero, List.set_cons_succ]
                  refine wpAnyH_take (i := 8) (oi := { dst := some 145, op := Go.Op.move (Go.Operand.tmp 9), type := 25, pos := "outright.go:129", after := #[{ on := 6, ground := Go.Ground.guard }], guard := some (6, true) }) (v := ?_) rfl (by kernel_rfl) (by kernel_rfl) (by kernel_rfl) (fun _ _ _ h => h) (Or.inl ⟨by rfl, ?_⟩) (by assumption) ?_
                  rotate_left
                  · (intro w hSw; (try dsimp only at hSw); (go_simp <;> with_reducible rfl))
                  try simp only [Act.put, List.setIfInBounds_toArray, List.set_cons_zero, List.set_cons_succ]
                  refine wpAnyH_take (i := 9) (oi := { dst := some 146, op := Go.Op.move (Go.Operand.tmp 17), type := 3, pos := "outright.go:129", after := #[{ on := 6, ground := Go.Ground.guard }], guard := some (6, true) }) (v := ?_) rfl (by kernel_rfl) (by kernel_rfl) (by kernel_rfl) (fun _ _ _ h => h) (Or.inl ⟨by rfl, ?_⟩) (by assumption) ?_
                  rotate_left
                  · (intro w hSw; (try dsimp only at hSw); (go_simp <;> with_reducible rfl))
                  try simp only [Act.put, List.setIfInBounds_toArray, List.set_cons_zero, List.set_cons_succ]
                  refine wpAnyH_take (i := 10) (oi := { dst := some 147, op := Go.Op.indexAddr 25 (Go.Operand.tmp 145) (Go.Operand.tmp 146), type := 0, pos := "outright.go:129", after := #[{ on := 8, ground := Go.Ground.data }, { on := 9, ground := Go.Ground.data }, { on := 6, ground := Go.Ground.guard }], guard := some (6, true) }) (v := ?_) rfl (by kernel_rfl) (by kernel_rfl) (by kernel_rfl) (fun _ _ _ h => h) (Or.inl ⟨by rfl, ?_⟩) (by assumption) ?_
                  rotate_left
                  · (intro w hSw; (try dsimp only at hSw); (go_simp <;> with_reducible rfl))
                  try simp only [Act.put, List.setIfInBounds_toArray, List.set_cons_zero, List.set_cons_succ]
                  refine wpAnyH_take (i := 11) (oi := { dst := some 148, op := Go.Op.load 78 (Go.Operand.tmp 147), type := 78, pos := "outright.go:129", after := #[{ on := 10, ground := Go.Ground.data }, { on := 6, ground := Go.Ground.guard }], guard := some (6, true) }) (v := ?_) rfl (by kernel_rfl) (by kernel_rfl) (by kernel_rfl) (fun _ _ _ h => h) (Or.inl ⟨by rfl, ?_⟩) (by assumption) ?_
                  rotate_left
                  · (intro w hSw; (try dsimp only at hSw); (go_simp <;> with_reducible rfl))
                  try simp only [Act.put, List.setIfInBounds_toArray, List.set_cons_zero, List.set_cons_succ]
                  refine wpAnyH_take (i := 12) (oi := { dst := some 149, op := Go.Op.binOp Go.BinOp.neq 78 (Go.Operand.tmp 144) (Go.Operand.tmp 148) 78, type := 4, pos := "outright.go:129", after := #[{ on := 7, ground := Go.Ground.data }, { on := 11, ground := Go.Ground.data }, { on := 6, ground := Go.Ground.guard }], guard := some (6, true) }) (v := ?_) rfl (by kernel_rfl) (by kernel_rfl) (by kernel_rfl) (fun _ _ _ h => h) (Or.inl ⟨by rfl, ?_⟩) (by assumption) ?_
                  rotate_left
                  · (intro w hSw; refine neq_op (x := .tmp 144) (y := .tmp 148) (p := (xi : Int)) (q := (xs : Int)) (r := xu) ?_ ?_ ?_ w <;> rfl)
                  try simp only [Act.put, List.setIfInBounds_toArray, List.set_cons_zero, List.set_cons_succ]
                  refine wpAnyH_take (i := 13) (oi := { dst := some 150, op := Go.Op.pick (Go.Operand.tmp 143) (Go.Operand.tmp 149) (Go.Operand.const (Go.Value.bool false)), type := 4, pos := "outright.go:129", after := #[{ on := 6, ground := Go.Ground.data }, { on := 12, ground := Go.Ground.data }, { on := 4, ground := Go.Ground.guard }], guard := some (4, false) }) (v := ?_) rfl (by kernel_rfl) (by kernel_rfl) (by kernel_rfl) (fun _ _ _ h => h) (Or.inl ⟨by rfl, ?_⟩) (by assumption) ?_
                  rotate_left
                  · (intro w hSw; (try dsimp only at hSw); (go_simp <;> with_reducible rfl))
                  try simp only [Act.put, List.setIfInBounds_toArray, List.set_cons_zero, List.set_cons_succ]
                  refine wpAnyH_take (i := 14) (oi := { dst := some 151, op := Go.Op.pick (Go.Operand.tmp 141) (Go.Operand.const (Go.Value.bool true)) (Go.Operand.tmp 150), type := 4, pos := "outright.go:129", after := #[{ on := 4, ground := Go.Ground.data }, { on := 13, ground := Go.Ground.data }], guard := none }) (v := ?_) rfl (by kernel_rfl) (by kernel_rfl) (by kernel_rfl) (fun _ _ _ h => h) (Or.inl ⟨by rfl, ?_⟩) (by assumption) ?_
                  rotate_left
                  · (intro w hSw; (try dsimp only at hSw); (go_simp <;> with_reducible rfl))
                  try simp only [Act.put, List.setIfInBounds_toArray, List.set_cons_zero, List.set_cons_succ]
                  refine wpAnyH_done (by kernel_rfl) ?_ _
                  go_wp2
                  go_roundg (gk - 1)
                  case measure => omega
                  case rel => exact ⟨j + 1, c0 + 1, by omega, by go_num, by go_num, HCt.out, Cs, HF5.out⟩
                · have HS : Hid (¬ (xu = 0 ∨ last < xu)) := fun e => by omega
                  have d1 : decide (last < xu) = false := by rw [decide_eq_false_iff_not]; exact hlt
                  have d2 : decide (xu > last) = false := d1
                  rw [if_neg HS.out] at HG'
                  simp only [Option.getD, Option.isSome, Bool.false_eq_true, if_false, bgV] at HG'
                  have HCt := hide (show c0 = (tik (S.L.take (j + 1)) last).length by rw [← take_rd HJ.out, tik_snoc, HRd.out, if_neg HS.out, HC0.out]; rfl)
                  go_wp2_with fail
                  refine (HG'.out _ _ HB1.out).mono ?_
                  rintro e w6 ⟨rfl, hh⟩
                  have hh2 := hh.box [.int .u32 (0 : Int), .int .i64 (0 : Int), .int .i64 0] 78
                  have r0 := hh2.cell (List.mem_cons_of_mem _ (HB.out.2 _ hm)) _ _ t0
                  have r1 := hh2.cell (List.mem_cons_of_mem _ (HB.out.2 _ hm)) _ _ t1
                  have r2 := hh2.cell (List.mem_cons_of_mem _ (HB.out.2 _ hm)) _ _ t2
                  have HSub := hide HB.out.2
                  clear x0 HB1 HB hh HG'
                  go_wp2
                  generalize World.alloc w6 _ = w8 at *
                  generalize w6.heap.size = X1 at *
                  obtain ⟨Cs, HF5⟩ : ∃ Cs, Hid (Lk w w8.drew b T 301 pp Cs ∧ ∀ x ∈ Rb, x ∈ Cs) := ⟨_, hh2.drew, fun x hx => List.mem_cons_of_mem _ (HSub.out x hx)⟩
                  clear hh2 HSub r0 r1 r2
                  refine wp_region_held_drew (S := (fun W => True)) (by kernel_rfl) ?_ (fun hHeld => ?_)
                  · (trivial)
                  refine wpAnyH_take (i := 0) (oi := { dst := some 137, op := Go.Op.move (Go.Operand.tmp 20), type := 4, pos := "outright.go:129", after := #[], guard := none }) (v := ?_) rfl (by kernel_rfl) (by kernel_rfl) (by kernel_rfl) (fun _ _ _ h => h) (Or.inl ⟨by rfl, ?_⟩) (by assumption) ?_
                  rotate_left
                  · (intro w hSw; (try dsimp only at hSw); (go_simp <;> with_reducible rfl))
                  try simp only [Act.put, List.setIfInBounds_toArray, List.set_cons_zero, List.set_cons_succ]
                  refine wpAnyH_take (i := 1) (oi := { dst := some 138, op := Go.Op.move (Go.Operand.tmp 19), type := 32, pos := "outright.go:129", after := #[], guard := none }) (v := ?_) rfl (by kernel_rfl) (by kernel_rfl) (by kernel_rfl) (fun _ _ _ h => h) (Or.inl ⟨by rfl, ?_⟩) (by assumption) ?_
                  rotate_left
                  · (intro w hSw; (try dsimp only at hSw); (go_simp <;> with_reducible rfl))
                  try simp only [Act.put, List.setIfInBounds_toArray, List.set_cons_zero, List.set_cons_succ]
                  refine wpAnyH_take (i := 2) (oi := { dst := some 139, op := Go.Op.binOp Go.BinOp.eql 32 (Go.Operand.tmp 138) (Go.Operand.const (Go.Value.int Go.IntKind.i64 0)) 32, type := 4, pos := "outright.go:129", after := #[{ on := 1, ground := Go.Ground.data }], guard := none }) (v := ?_) rfl (by kernel_rfl) (by kernel_rfl) (by kernel_rfl) (fun _ _ _ h => h) (Or.inl ⟨by rfl, ?_⟩) (by assumption) ?_
                  rotate_left
                  · (intro w hSw; (try dsimp only at hSw); (go_simp <;> with_reducible rfl))
                  try simp only [Act.put, List.setIfInBounds_toArray, List.set_cons_zero, List.set_cons_succ]
                  refine wpAnyH_take (i := 3) (oi := { dst := some 140, op := Go.Op.binOp Go.BinOp.neq 4 (Go.Operand.tmp 137) (Go.Operand.tmp 139) 4, type := 4, pos := "outright.go:129", after := #[{ on := 0, ground := Go.Ground.data }, { on := 2, ground := Go.Ground.data }], guard := none }) (v := ?_) rfl (by kernel_rfl) (by kernel_rfl) (by kernel_rfl) (fun _ _ _ h => h) (Or.inl ⟨by rfl, ?_⟩) (by assumption) ?_
                  rotate_left
                  · (intro w hSw; (try dsimp only at hSw); (go_simp <;> with_reducible rfl))
                  try simp only [Act.put, List.setIfInBounds_toArray, List.set_cons_zero, List.set_cons_succ]
                  refine wpAnyH_take (i := 4) (oi := { dst := some 141, op := Go.Op.move (Go.Operand.tmp 140), type := 4, pos := "outright.go:129", after := #[{ on := 3, ground := Go.Ground.data }], guard := none }) (v := ?_) rfl (by kernel_rfl) (by kernel_rfl) (by kernel_rfl) (fun _ _ _ h => h) (Or.inl ⟨by rfl, ?_⟩) (by assumption) ?_
                  rotate_left
                  · (intro w hSw; (try dsimp only at hSw); (go_simp <;> with_reducible rfl))
                  try simp only [Act.put, List.setIfInBounds_toArray, List.set_cons_zero, List.set_cons_succ]
                  refine wpAnyH_take (i := 5) (oi := { dst := some 142, op := Go.Op.move (Go.Operand.tmp 20), type := 4, pos := "outright.go:129", after := #[{ on := 4, ground := Go.Ground.guard }], guard := some (4, false) }) (v := ?_) rfl (by kernel_rfl) (by kernel_rfl) (by kernel_rfl) (fun _ _ _ h => h) (Or.inl ⟨by rfl, ?_⟩) (by assumption) ?_
                  rotate_left
                  · (intro w hSw; (try dsimp only at hSw); (go_simp <;> with_reducible rfl))
                  try simp only [Act.put, List.setIfInBounds_toArray, List.set_cons_zero, List.set_cons_succ]
                  refine wpAnyH_take (i := 6) (oi := { dst := some 143, op := Go.Op.move (Go.Operand.tmp 142), type := 4, pos := "outright.go:129", after := #[{ on := 5, ground := Go.Ground.data }, { on := 4, ground := Go.Ground.chain }, { on := 4, ground := Go.Ground.guard }], guard := some (4, false) }) (v := ?_) rfl (by kernel_rfl) (by kernel_rfl) (by kernel_rfl) (fun _ _ _ h => h) (Or.inl ⟨by rfl, ?_⟩) (by assumption) ?_
                  rotate_left
                  · (intro w hSw; (try dsimp only at hSw); (go_simp <;> with_reducible rfl))
                  try simp only [Act.put, List.setIfInBounds_toArray, List.set_cons_zero, List.set_cons_succ]
                  refine wpAnyH_take (i := 7) (oi := { dst := some 144, op := Go.Op.load 78 (Go.Operand.tmp 18), type := 78, pos := "outright.go:129", after := #[{ on := 6, ground := Go.Ground.guard }], guard := some (6, true) }) (v := undef) rfl (by kernel_rfl) (by kernel_rfl) (by kernel_rfl) (fun _ _ _ h => h) (Or.inr ⟨by rfl, rfl⟩) (by assumption) ?_
                  try simp only [Act.put, List.setIfInBounds_toArray, List.set_cons_zero, List.set_cons_succ]
                  refine wpAnyH_take (i := 8) (oi := { dst := some 145, op := Go.Op.move (Go.Operand.tmp 9), type := 25, pos := "outright.go:129", after := #[{ on := 6, ground := Go.Ground.guard }], guard := some (6, true) }) (v := undef) rfl (by kernel_rfl) (by kernel_rfl) (by kernel_rfl) (fun _ _ _ h => h) (Or.inr ⟨by rfl, rfl⟩) (by assumption) ?_
                  try simp only [Act.put, List.setIfInBounds_toArray, List.set_cons_zero, List.set_cons_succ]
                  refine wpAnyH_take (i := 9) (oi := { dst := some 146, op := Go.Op.move (Go.Operand.tmp 17), type := 3, pos := "outright.go:129", after := #[{ on := 6, ground := Go.Ground.guard }], guard := some (6, true) }) (v := undef) rfl (by kernel_rfl) (by kernel_rfl) (by kernel_rfl) (fun _ _ _ h => h) (Or.inr ⟨by rfl, rfl⟩) (by assumption) ?_
                  try simp only [Act.put, List.setIfInBounds_toArray, List.set_cons_zero, List.set_cons_succ]
                  refine wpAnyH_take (i := 10) (oi := { dst := some 147, op := Go.Op.indexAddr 25 (Go.Operand.tmp 145) (Go.Operand.tmp 146), type := 0, pos := "outright.go:129", after := #[{ on := 8, ground := Go.Ground.data }, { on := 9, ground := Go.Ground.data }, { on := 6, ground := Go.Ground.guard }], guard := some (6, true) }) (v := undef) rfl (by kernel_rfl) (by kernel_rfl) (by kernel_rfl) (fun _ _ _ h => h) (Or.inr ⟨by rfl, rfl⟩) (by assumption) ?_
                  try simp only [Act.put, List.setIfInBounds_toArray, List.set_cons_zero, List.set_cons_succ]
                  refine wpAnyH_take (i := 11) (oi := { dst := some 148, op := Go.Op.load 78 (Go.Operand.tmp 147), type := 78, pos := "outright.go:129", after := #[{ on := 10, ground := Go.Ground.data }, { on := 6, ground := Go.Ground.guard }], guard := some (6, true) }) (v := undef) rfl (by kernel_rfl) (by kernel_rfl) (by kernel_rfl) (fun _ _ _ h => h) (Or.inr ⟨by rfl, rfl⟩) (by assumption) ?_
                  try simp only [Act.put, List.setIfInBounds_toArray, List.set_cons_zero, List.set_cons_succ]
                  refine wpAnyH_take (i := 12) (oi := { dst := some 149, op := Go.Op.binOp Go.BinOp.neq 78 (Go.Operand.tmp 144) (Go.Operand.tmp 148) 78, type := 4, pos := "outright.go:129", after := #[{ on := 7, ground := Go.Ground.data }, { on := 11, ground := Go.Ground.data }, { on := 6, ground := Go.Ground.guard }], guard := some (6, true) }) (v := undef) rfl (by kernel_rfl) (by kernel_rfl) (by kernel_rfl) (fun _ _ _ h => h) (Or.inr ⟨by rfl, rfl⟩) (by assumption) ?_
                  try simp only [Act.put, List.setIfInBounds_toArray, List.set_cons_zero, List.set_cons_succ]
                  refine wpAnyH_take (i := 13) (oi := { dst := some 150, op := Go.Op.pick (Go.Operand.tmp 143) (Go.Operand.tmp 149) (Go.Operand.const (Go.Value.bool false)), type := 4, pos := "outright.go:129", after := #[{ on := 6, ground := Go.Ground.data }, { on := 12, ground := Go.Ground.data }, { on := 4, ground := Go.Ground.guard }], guard := some (4, false) }) (v := ?_) rfl (by kernel_rfl) (by kernel_rfl) (by kernel_rfl) (fun _ _ _ h => h) (Or.inl ⟨by rfl, ?_⟩) (by assumption) ?_
                  rotate_left
                  · (intro w hSw; (try dsimp only at hSw); (go_simp <;> with_reducible rfl))
                  try simp only [Act.put, List.setIfInBounds_toArray, List.set_cons_zero, List.set_cons_succ]
                  refine wpAnyH_take (i := 14) (oi := { dst := some 151, op := Go.Op.pick (Go.Operand.tmp 141) (Go.Operand.const (Go.Value.bool true)) (Go.Operand.tmp 150), type := 4, pos := "outright.go:129", after := #[{ on := 4, ground := Go.Ground.data }, { on := 13, ground := Go.Ground.data }], guard := none }) (v := ?_) rfl (by kernel_rfl) (by kernel_rfl) (by kernel_rfl) (fun _ _ _ h => h) (Or.inl ⟨by rfl, ?_⟩) (by assumption) ?_
                  rotate_left
                  · (intro w hSw; (try dsimp only at hSw); (go_simp <;> with_reducible rfl))
                  try simp only [Act.put, List.setIfInBounds_toArray, List.set_cons_zero, List.set_cons_succ]
                  refine wpAnyH_done (by kernel_rfl) ?_ _
                  go_wp2
                  go_roundg (gk - 1)
                  case measure => omega
                  case rel => exact ⟨j + 1, c0, by omega, by go_num, rfl, HCt.out, Cs, HF5.out⟩
            · have hj : j = n := by omega
              subst hj
              have hc : c0 = (tik S.L last).length := by
                rw [HC0.out, ← HN.out, List.take_length]
              rw [← hc] at HLn
              go_wp2_with fail
              refine (HLn.out _ _ HB.out.1).mono ?_
              rintro e w8 ⟨rfl, rfl⟩
              have HE := hide HB.out.1.gr
              clear HB HLn
              go_wp2
              go_ret
              exact ⟨rfl, HE.out⟩
  · go_wp2_with fail
    refine (HAp.out _ _ _ _ _ _ HM.out.1 (by omega) H5.out.2.1 last HI.out.2.2.1 HI.out.2.2.2).mono ?_
    rintro e w9 ⟨rfl, q3, hq3, hs3⟩
    have H7 := hide (And.intro (H5.out.1.beside H5.out.2.1 H5.out.2.2 hs3) hq3)
    clear hq3 hs3 H5
    go_wp2_with fail
    refine (HAp.out _ _ _ _ _ _ HM.out.1 (by omega) H7.out.1.1 last HI.out.2.2.1 HI.out.2.2.2).mono ?_
    rintro e w10 ⟨rfl, pp, hp4, hs4⟩
    have HT := hide (And.intro hp4 (H7.out.2.beside H7.out.1.1 (fun i a b => H7.out.1.2 i b a) hs4))
    clear hp4 hs4 H7 HAp
    by_cases hr1 : last < 1
    · have he : appE S (tkR last) = 160 := tk_bad (by omega)
      have hS : app S (tkR last) = S := app_no (by rw [he]; decide)
      rw [hS] at HT
      rw [he]
      clear hS he
      go_wp2_with fail
      refine HT.out.1.clock.mono ?_
      rintro e w8 ⟨rfl, rfl⟩
      have HE := hide HT.out.1.gr
      clear HT
      go_wp2
      go_ret
      exact ⟨rfl, HE.out⟩
    · by_cases hr2 : 1099511627776 < last
      · have he : appE S (tkR last) = 160 := tk_bad (by simp only [mxC]; omega)
        have hS : app S (tkR last) = S := app_no (by rw [he]; decide)
        rw [hS] at HT
        rw [he]
        clear hS he
        go_wp2_with fail
        refine HT.out.1.clock.mono ?_
        rintro e w8 ⟨rfl, rfl⟩
        have HE := hide HT.out.1.gr
        clear HT
        go_wp2
        go_ret
        exact ⟨rfl, HE.out⟩
      · have hrg : 1 ≤ last ∧ last ≤ mxC := by simp only [mxC]; omega
        by_cases hr3 : last ≤ S.t
        · have he : appE S (tkR last) = 173 := tk_past hrg hr3
          have hS : app S (tkR last) = S := app_no (by rw [he]; decide)
          rw [hS] at HT
          rw [he]
          clear hS he
          go_wp2_with fail
          refine HT.out.1.clock.mono ?_
          rintro e w8 ⟨rfl, rfl⟩
          have HE := hide HT.out.1.gr
          clear HT
          go_wp2
          go_ret
          exact ⟨rfl, HE.out⟩
        · obtain ⟨he, hTT⟩ := tk_ok hrg hr3
          rw [he]
          obtain ⟨T, hT0⟩ : ∃ T, app S (tkR last) = T := ⟨_, rfl⟩
          rw [hT0] at HT hTT
          have HTo := hide (show T.Ok by rw [← hT0]; exact HM.out.1.app _)
          have hT1 : T.t = last := by rw [hTT]
          have hT2 : T.n = S.n := by rw [hTT]
          have HTL := hide (show T.L = tik S.L last by rw [hTT])
          clear hTT hT0 he
          have HCl := hide HT.out.1.clock
          have HNx := hide HT.out.1.next
          have HSm := hide (HT.out.1.same HT.out.2.1 HTo.out.wk)
          rw [hT1] at HCl
          rw [hT2] at HNx
          have HG : Hid (∀ W Bs j, Lk w W b T 301 pp Bs → j < S.L.length → Calls Tryz.prog 29 #[.pointer (some ⟨b, 0, none⟩), .int .u32 ((rd S.L j).i : Int)] W fun e w' => e = .returned (.tuple #[bgV ((if (rd S.L j).u = 0 ∨ last < (rd S.L j).u then some (rd S.L j) else none).getD ⟨0, 0, 0⟩), .int .i64 (if (if (rd S.L j).u = 0 ∨ last < (rd S.L j).u then some (rd S.L j) else none).isSome then 0 else 171)]) ∧ Lk w w' b T 301 pp Bs) := by
            intro W Bs j h hj
            have hm := rd_mem hj
            have := h.get HTo.out.wk (rd S.L j).i (by have := HM.out.1.id _ hm; have := HM.out.1.n1; omega)
            rw [HTL.out, fnd_tik HM.out.1.asc hm] at this
            exact this
          have HLn : Hid (∀ W Bs, Lk w W b T 301 pp Bs → Calls Tryz.prog 28 #[.pointer (some ⟨b, 0, none⟩)] W fun e w' => e = .returned (.int .i64 ((tik S.L last).length : Int)) ∧ w' = W) := by
            intro W Bs h
            have := h.len
            rw [HTL.out] at this
            exact this
          go_wp2_with fail
          refine HCl.out.mono ?_
          rintro e w8 ⟨rfl, rfl⟩
          go_wp2_with fail
          refine HNx.out.mono ?_
          rintro e w9 ⟨rfl, rfl⟩
          go_wp2_with fail
          refine HSm.out.mono ?_
          rintro e w10 ⟨rfl, hg10⟩
          have H10 := hide (HT.out.1.then hg10)
          clear HCl HNx HSm HT hg10 hT1 hT2
          go_wp2
          go_loopg [16, 17] n (fun k c i wr => ∃ j c0 : Nat, k + j = n ∧ i = .int .i64 j ∧ c = .int .i64 (c0 : Int) ∧ Hid (c0 = (tik (S.L.take j) last).length) ∧ ∃ Bs, Hid (Lk w wr b T 301 pp Bs ∧ ∀ x ∈ Rb, x ∈ Bs))
          case atStart => exact ⟨0, 0, by omega, rfl, rfl, rfl, _, H10.out, fun x hx => hx⟩
          case round =>
            clear H10
            obtain ⟨j, c0, hkj, rfl, rfl, HC0, Bs, HB⟩ := hrel
            by_cases hk : 0 < gk
            · have hj : j < S.L.length := by rw [HN.out]; omega
              have HJ := hide hj
              have h1 : (0 : Int) ≤ (j : Int) := by omega
              have h2 : (j : Int) < (n : Int) := by omega
              have hc8 : c0 ≤ 4294967296 := by
                rw [HC0.out]
                exact Nat.le_trans (List.length_filter_le _ _) (by rw [List.length_take]; have := HN.out; omega)
              obtain ⟨g, cs, rfl, hm, t0, t1, t2⟩ := HRow.out j (by omega)
              have x0 := HB.out.1.cell (HB.out.2 _ hm) _ _ t0
              have HB1 := hide HB.out.1
              have HG' := hide (fun W Bs h => HG.out W Bs j h (by omega))
              obtain ⟨xx, hxx⟩ : ∃ xx, rd S.L j = xx := ⟨_, rfl⟩
              rw [hxx] at x0 t0 t1 t2 HG'
              obtain ⟨xi, xs, xu⟩ := xx
              simp only at x0 t0 t1 t2 HG'
              have HRd := hide hxx
              clear hxx hj HG HRow
              by_cases hz : xu = 0
              · subst hz
                have HS : Hid ((0 : Int) = 0 ∨ last < 0) := .inl rfl
                rw [if_pos HS.out] at HG'
                simp only [Option.getD, Option.isSome, if_true, bgV] at HG'
                have HCt := hide (show c0 + 1 = (tik (S.L.take (j + 1)) last).length by rw [← take_rd HJ.out, tik_snoc, HRd.out, if_pos HS.out, HC0.out])
                go_wp2_with fail
                refine (HG'.out _ _ HB1.out).mono ?_
                rintro e w6 ⟨rfl, hh⟩
                have hh2 := hh.box [.int .u32 (xi : Int), .int .i64 (xs : Int), .int .i64 0] 78
                have r0 := hh2.cell (List.mem_cons_of_mem _ (HB.out.2 _ hm)) _ _ t0
                have r1 := hh2.cell (List.mem_cons_of_mem _ (HB.out.2 _ hm)) _ _ t1
                have r2 := hh2.cell (List.mem_cons_of_mem _ (HB.out.2 _ hm)) _ _ t2
                have HSub := hide HB.out.2
                clear x0 HB1 HB hh HG'
                go_wp2
                generalize World.alloc w6 _ = w8 at *
                generalize w6.heap.size = X1 at *
                obtain ⟨Cs, HF5⟩ : ∃ Cs, Hid (Lk w w8.drew b T 301 pp Cs ∧ ∀ x ∈ Rb, x ∈ Cs) := ⟨_, hh2.drew, fun x hx => List.mem_cons_of_mem _ (HSub.out x hx)⟩
                have hK := And.intro (hh2.cell List.mem_cons_self 0 _ rfl) (And.intro (hh2.cell List.mem_cons_self 1 _ rfl) (And.intro (hh2.cell List.mem_cons_self 2 _ rfl) (And.intro r0 (And.intro r1 r2))))
                clear hh2 HSub r0 r1 r2
                refine wp_region_held_drew (S := (fun W => W.cell? ⟨X1, 0, none⟩ = some (.int .u32 (xi : Int)) ∧ W.cell? ⟨X1, 1, none⟩ = some (.int .i64 (xs : Int)) ∧ W.cell? ⟨X1, 2, none⟩ = some (.int .i64 0) ∧ W.cell? ⟨g, j * 3, none⟩ = some (.int .u32 (xi : Int)) ∧ W.cell? ⟨g, j * 3 + 1, none⟩ = some (.int .i64 (xs : Int)) ∧ W.cell? ⟨g, j * 3 + 2, none⟩ = some (.int .i64 0))) (by kernel_rfl) ?_ (fun hHeld => ?_)
                · (exact hK)
                refine wpAnyH_take (i := 0) (oi := { dst := some 137, op := Go.Op.move (Go.Operand.tmp 20), type := 4, pos := "outright.go:129", after := #[], guard := none }) (v := ?_) rfl (by kernel_rfl) (by kernel_rfl) (by kernel_rfl) (fun _ _ _ h => h) (Or.inl ⟨by rfl, ?_⟩) (by assumption) ?_
                rotate_left
                · (intro w hSw; (try dsimp only at hSw); (go_simp <;> with_reducible rfl))
                try simp only [Act.put, List.setIfInBounds_toArray, List.set_cons_zero, List.set_cons_succ]
                refine wpAnyH_take (i := 1) (oi := { dst := some 138, op := Go.Op.move (Go.Operand.tmp 19), type := 32, pos := "outright.go:129", after := #[], guard := none }) (v := ?_) rfl (by kernel_rfl) (by kernel_rfl) (by kernel_rfl) (fun _ _ _ h => h) (Or.inl ⟨by rfl, ?_⟩) (by assumption) ?_
                rotate_left
                · (intro w hSw; (try dsimp only at hSw); (go_simp <;> with_reducible rfl))
                try simp only [Act.put, List.setIfInBounds_toArray, List.set_cons_zero, List.set_cons_succ]
                refine wpAnyH_take (i := 2) (oi := { dst := some 139, op := Go.Op.binOp Go.BinOp.eql 32 (Go.Operand.tmp 138) (Go.Operand.const (Go.Value.int Go.IntKind.i64 0)) 32, type := 4, pos := "outright.go:129", after := #[{ on := 1, ground := Go.Ground.data }], guard := none }) (v := ?_) rfl (by kernel_rfl) (by kernel_rfl) (by kernel_rfl) (fun _ _ _ h => h) (Or.inl ⟨by rfl, ?_⟩) (by assumption) ?_
                rotate_left
                · (intro w hSw; (try dsimp only at hSw); (go_simp <;> with_reducible rfl))
                try simp only [Act.put, List.setIfInBounds_toArray, List.set_cons_zero, List.set_cons_succ]
                refine wpAnyH_take (i := 3) (oi := { dst := some 140, op := Go.Op.binOp Go.BinOp.neq 4 (Go.Operand.tmp 137) (Go.Operand.tmp 139) 4, type := 4, pos := "outright.go:129", after := #[{ on := 0, ground := Go.Ground.data }, { on := 2, ground := Go.Ground.data }], guard := none }) (v := ?_) rfl (by kernel_rfl) (by kernel_rfl) (by kernel_rfl) (fun _ _ _ h => h) (Or.inl ⟨by rfl, ?_⟩) (by assumption) ?_
                rotate_left
                · (intro w hSw; (try dsimp only at hSw); (go_simp <;> with_reducible rfl))
                try simp only [Act.put, List.setIfInBounds_toArray, List.set_cons_zero, List.set_cons_succ]
                refine wpAnyH_take (i := 4) (oi := { dst := some 141, op := Go.Op.move (Go.Operand.tmp 140), type := 4, pos := "outright.go:129", after := #[{ on := 3, ground := Go.Ground.data }], guard := none }) (v := ?_) rfl (by kernel_rfl) (by kernel_rfl) (by kernel_rfl) (fun _ _ _ h => h) (Or.inl ⟨by rfl, ?_⟩) (by assumption) ?_
                rotate_left
                · (intro w hSw; (try dsimp only at hSw); (go_simp <;> with_reducible rfl))
                try simp only [Act.put, List.setIfInBounds_toArray, List.set_cons_zero, List.set_cons_succ]
                refine wpAnyH_take (i := 5) (oi := { dst := some 142, op := Go.Op.move (Go.Operand.tmp 20), type := 4, pos := "outright.go:129", after := #[{ on := 4, ground := Go.Ground.guard }], guard := some (4, false) }) (v := ?_) rfl (by kernel_rfl) (by kernel_rfl) (by kernel_rfl) (fun _ _ _ h => h) (Or.inl ⟨by rfl, ?_⟩) (by assumption) ?_
                rotate_left
                · (intro w hSw; (try dsimp only at hSw); (go_simp <;> with_reducible rfl))
                try simp only [Act.put, List.setIfInBounds_toArray, List.set_cons_zero, List.set_cons_succ]
                refine wpAnyH_take (i := 6) (oi := { dst := some 143, op := Go.Op.move (Go.Operand.tmp 142), type := 4, pos := "outright.go:129", after := #[{ on := 5, ground := Go.Ground.data }, { on := 4, ground := Go.Ground.chain }, { on := 4, ground := Go.Ground.guard }], guard := some (4, false) }) (v := ?_) rfl (by kernel_rfl) (by kernel_rfl) (by kernel_rfl) (fun _ _ _ h => h) (Or.inl ⟨by rfl, ?_⟩) (by assumption) ?_
                rotate_left
                · (intro w hSw; (try dsimp only at hSw); (go_simp <;> with_reducible rfl))
                try simp only [Act.put, List.setIfInBounds_toArray, List.set_cons_zero, List.set_cons_succ]
                refine wpAnyH_take (i := 7) (oi := { dst := some 144, op := Go.Op.load 78 (Go.Operand.tmp 18), type := 78, pos := "outright.go:129", after := #[{ on := 6, ground := Go.Ground.guard }], guard := some (6, true) }) (v := ?_) rfl (by kernel_rfl) (by kernel_rfl) (by kernel_rfl) (fun _ _ _ h => h) (Or.inl ⟨by rfl, ?_⟩) (by assumption) ?_
                rotate_left
                · (intro w hSw; (try dsimp only at hSw); (go_simp <;> with_reducible rfl))
                try simp only [Act.put, List.setIfInBounds_toArray, List.set_cons_zero, List.set_cons_succ]
                refine wpAnyH_take (i := 8) (oi := { dst := some 145, op := Go.Op.move (Go.Operand.tmp 9), type := 25, pos := "outright.go:129", after := #[{ on := 6, ground := Go.Ground.guard }], guard := some (6, true) }) (v := ?_) rfl (by kernel_rfl) (by kernel_rfl) (by kernel_rfl) (fun _ _ _ h => h) (Or.inl ⟨by rfl, ?_⟩) (by assumption) ?_
                rotate_left
                · (intro w hSw; (try dsimp only at hSw); (go_simp <;> with_reducible rfl))
                try simp only [Act.put, List.setIfInBounds_toArray, List.set_cons_zero, List.set_cons_succ]
                refine wpAnyH_take (i := 9) (oi := { dst := some 146, op := Go.Op.move (Go.Operand.tmp 17), type := 3, pos := "outright.go:129", after := #[{ on := 6, ground := Go.Ground.guard }], guard := some (6, true) }) (v := ?_) rfl (by kernel_rfl) (by kernel_rfl) (by kernel_rfl) (fun _ _ _ h => h) (Or.inl ⟨by rfl, ?_⟩) (by assumption) ?_
                rotate_left
                · (intro w hSw; (try dsimp only at hSw); (go_simp <;> with_reducible rfl))
                try simp only [Act.put, List.setIfInBounds_toArray, List.set_cons_zero, List.set_cons_succ]
                refine wpAnyH_take (i := 10) (oi := { dst := some 147, op := Go.Op.indexAddr 25 (Go.Operand.tmp 145) (Go.Operand.tmp 146), type := 0, pos := "outright.go:129", after := #[{ on := 8, ground := Go.Ground.data }, { on := 9, ground := Go.Ground.data }, { on := 6, ground := Go.Ground.guard }], guard := some (6, true) }) (v := ?_) rfl (by kernel_rfl) (by kernel_rfl) (by kernel_rfl) (fun _ _ _ h => h) (Or.inl ⟨by rfl, ?_⟩) (by assumption) ?_
                rotate_left
                · (intro w hSw; (try dsimp only at hSw); (go_simp <;> with_reducible rfl))
                try simp only [Act.put, List.setIfInBounds_toArray, List.set_cons_zero, List.set_cons_succ]
                refine wpAnyH_take (i := 11) (oi := { dst := some 148, op := Go.Op.load 78 (Go.Operand.tmp 147), type := 78, pos := "outright.go:129", after := #[{ on := 10, ground := Go.Ground.data }, { on := 6, ground := Go.Ground.guard }], guard := some (6, true) }) (v := ?_) rfl (by kernel_rfl) (by kernel_rfl) (by kernel_rfl) (fun _ _ _ h => h) (Or.inl ⟨by rfl, ?_⟩) (by assumption) ?_
                rotate_left
                · (intro w hSw; (try dsimp only at hSw); (go_simp <;> with_reducible rfl))
                try simp only [Act.put, List.setIfInBounds_toArray, List.set_cons_zero, List.set_cons_succ]
                refine wpAnyH_take (i := 12) (oi := { dst := some 149, op := Go.Op.binOp Go.BinOp.neq 78 (Go.Operand.tmp 144) (Go.Operand.tmp 148) 78, type := 4, pos := "outright.go:129", after := #[{ on := 7, ground := Go.Ground.data }, { on := 11, ground := Go.Ground.data }, { on := 6, ground := Go.Ground.guard }], guard := some (6, true) }) (v := ?_) rfl (by kernel_rfl) (by kernel_rfl) (by kernel_rfl) (fun _ _ _ h => h) (Or.inl ⟨by rfl, ?_⟩) (by assumption) ?_
                rotate_left
                · (intro w hSw; refine neq_op (x := .tmp 144) (y := .tmp 148) (p := (xi : Int)) (q := (xs : Int)) (r := 0) ?_ ?_ ?_ w <;> rfl)
                try simp only [Act.put, List.setIfInBounds_toArray, List.set_cons_zero, List.set_cons_succ]
                refine wpAnyH_take (i := 13) (oi := { dst := some 150, op := Go.Op.pick (Go.Operand.tmp 143) (Go.Operand.tmp 149) (Go.Operand.const (Go.Value.bool false)), type := 4, pos := "outright.go:129", after := #[{ on := 6, ground := Go.Ground.data }, { on := 12, ground := Go.Ground.data }, { on := 4, ground := Go.Ground.guard }], guard := some (4, false) }) (v := ?_) rfl (by kernel_rfl) (by kernel_rfl) (by kernel_rfl) (fun _ _ _ h => h) (Or.inl ⟨by rfl, ?_⟩) (by assumption) ?_
                rotate_left
                · (intro w hSw; (try dsimp only at hSw); (go_simp <;> with_reducible rfl))
                try simp only [Act.put, List.setIfInBounds_toArray, List.set_cons_zero, List.set_cons_succ]
                refine wpAnyH_take (i := 14) (oi := { dst := some 151, op := Go.Op.pick (Go.Operand.tmp 141) (Go.Operand.const (Go.Value.bool true)) (Go.Operand.tmp 150), type := 4, pos := "outright.go:129", after := #[{ on := 4, ground := Go.Ground.data }, { on := 13, ground := Go.Ground.data }], guard := none }) (v := ?_) rfl (by kernel_rfl) (by kernel_rfl) (by kernel_rfl) (fun _ _ _ h => h) (Or.inl ⟨by rfl, ?_⟩) (by assumption) ?_
                rotate_left
                · (intro w hSw; (try dsimp only at hSw); (go_simp <;> with_reducible rfl))
                try simp only [Act.put, List.setIfInBounds_toArray, List.set_cons_zero, List.set_cons_succ]
                refine wpAnyH_done (by kernel_rfl) ?_ _
                go_wp2
                go_roundg (gk - 1)
                case measure => omega
                case rel => exact ⟨j + 1, c0 + 1, by omega, by go_num, by go_num, HCt.out, Cs, HF5.out⟩
              · have hz1 : (xu == 0) = false := by simpa using hz
                have hz2 : decide (xu = 0) = false := by simpa using hz
                by_cases hlt : last < xu
                · have HS : Hid (xu = 0 ∨ last < xu) := .inr hlt
                  have d1 : decide (last < xu) = true := decide_eq_true hlt
                  have d2 : decide (xu > last) = true := d1
                  rw [if_pos HS.out] at HG'
                  simp only [Option.getD, Option.isSome, if_true, bgV] at HG'
                  have HCt := hide (show c0 + 1 = (tik (S.L.take (j + 1)) last).length by rw [← take_rd HJ.out, tik_snoc, HRd.out, if_pos HS.out, HC0.out])
                  go_wp2_with fail
                  refine (HG'.out _ _ HB1.out).mono ?_
                  rintro e w6 ⟨rfl, hh⟩
                  have hh2 := hh.box [.int .u32 (xi : Int), .int .i64 (xs : Int), .int .i64 xu] 78
                  have r0 := hh2.cell (List.mem_cons_of_mem _ (HB.out.2 _ hm)) _ _ t0
                  have r1 := hh2.cell (List.mem_cons_of_mem _ (HB.out.2 _ hm)) _ _ t1
                  have r2 := hh2.cell (List.mem_cons_of_mem _ (HB.out.2 _ hm)) _ _ t2
                  have HSub := hide HB.out.2
                  clear x0 HB1 HB hh HG'
                  go_wp2
                  generalize World.alloc w6 _ = w8 at *
                  generalize w6.heap.size = X1 at *
                  obtain ⟨Cs, HF5⟩ : ∃ Cs, Hid (Lk w w8.drew b T 301 pp Cs ∧ ∀ x ∈ Rb, x ∈ Cs) := ⟨_, hh2.drew, fun x hx => List.mem_cons_of_mem _ (HSub.out x hx)⟩
                  have hK := And.intro (hh2.cell List.mem_cons_self 0 _ rfl) (And.intro (hh2.cell List.mem_cons_self 1 _ rfl) (And.intro (hh2.cell List.mem_cons_self 2 _ rfl) (And.intro r0 (And.intro r1 r2))))
                  clear hh2 HSub r0 r1 r2
                  refine wp_region_held_drew (S := (fun W => W.cell? ⟨X1, 0, none⟩ = some (.int .u32 (xi : Int)) ∧ W.cell? ⟨X1, 1, none⟩ = some (.int .i64 (xs : Int)) ∧ W.cell? ⟨X1, 2, none⟩ = some (.int .i64 xu) ∧ W.cell? ⟨g, j * 3, none⟩ = some (.int .u32 (xi : Int)) ∧ W.cell? ⟨g, j * 3 + 1, none⟩ = some (.int .i64 (xs : Int)) ∧ W.cell? ⟨g, j * 3 + 2, none⟩ = some (.int .i64 xu))) (by kernel_rfl) ?_ (fun hHeld => ?_)
                  · (exact hK)
                  refine wpAnyH_take (i := 0) (oi := { dst := some 137, op := Go.Op.move (Go.Operand.tmp 20), type := 4, pos := "outright.go:129", after := #[], guard := none }) (v := ?_) rfl (by kernel_rfl) (by kernel_rfl) (by kernel_rfl) (fun _ _ _ h => h) (Or.inl ⟨by rfl, ?_⟩) (by assumption) ?_
                  rotate_left
                  · (intro w hSw; (try dsimp only at hSw); (go_simp <;> with_reducible rfl))
                  try simp only [Act.put, List.setIfInBounds_toArray, List.set_cons_zero, List.set_cons_succ]
                  refine wpAnyH_take (i := 1) (oi := { dst := some 138, op := Go.Op.move (Go.Operand.tmp 19), type := 32, pos := "outright.go:129", after := #[], guard := none }) (v := ?_) rfl (by kernel_rfl) (by kernel_rfl) (by kernel_rfl) (fun _ _ _ h => h) (Or.inl ⟨by rfl, ?_⟩) (by assumption) ?_
                  rotate_left
                  · (intro w hSw; (try dsimp only at hSw); (go_simp <;> with_reducible rfl))
                  try simp only [Act.put, List.setIfInBounds_toArray, List.set_cons_zero, List.set_cons_succ]
                  refine wpAnyH_take (i := 2) (oi := { dst := some 139, op := Go.Op.binOp Go.BinOp.eql 32 (Go.Operand.tmp 138) (Go.Operand.const (Go.Value.int Go.IntKind.i64 0)) 32, type := 4, pos := "outright.go:129", after := #[{ on := 1, ground := Go.Ground.data }], guard := none }) (v := ?_) rfl (by kernel_rfl) (by kernel_rfl) (by kernel_rfl) (fun _ _ _ h => h) (Or.inl ⟨by rfl, ?_⟩) (by assumption) ?_
                  rotate_left
                  · (intro w hSw; (try dsimp only at hSw); (go_simp <;> with_reducible rfl))
                  try simp only [Act.put, List.setIfInBounds_toArray, List.set_cons_zero, List.set_cons_succ]
                  refine wpAnyH_take (i := 3) (oi := { dst := some 140, op := Go.Op.binOp Go.BinOp.neq 4 (Go.Operand.tmp 137) (Go.Operand.tmp 139) 4, type := 4, pos := "outright.go:129", after := #[{ on := 0, ground := Go.Ground.data }, { on := 2, ground := Go.Ground.data }], guard := none }) (v := ?_) rfl (by kernel_rfl) (by kernel_rfl) (by kernel_rfl) (fun _ _ _ h => h) (Or.inl ⟨by rfl, ?_⟩) (by assumption) ?_
                  rotate_left
                  · (intro w hSw; (try dsimp only at hSw); (go_simp <;> with_reducible rfl))
                  try simp only [Act.put, List.setIfInBounds_toArray, List.set_cons_zero, List.set_cons_succ]
                  refine wpAnyH_take (i := 4) (oi := { dst := some 141, op := Go.Op.move (Go.Operand.tmp 140), type := 4, pos := "outright.go:129", after := #[{ on := 3, ground := Go.Ground.data }], guard := none }) (v := ?_) rfl (by kernel_rfl) (by kernel_rfl) (by kernel_rfl) (fun _ _ _ h => h) (Or.inl ⟨by rfl, ?_⟩) (by assumption) ?_
                  rotate_left
                  · (intro w hSw; (try dsimp only at hSw); (go_simp <;> with_reducible rfl))
                  try simp only [Act.put, List.setIfInBounds_toArray, List.set_cons_zero, List.set_cons_succ]
                  refine wpAnyH_take (i := 5) (oi := { dst := some 142, op := Go.Op.move (Go.Operand.tmp 20), type := 4, pos := "outright.go:129", after := #[{ on := 4, ground := Go.Ground.guard }], guard := some (4, false) }) (v := ?_) rfl (by kernel_rfl) (by kernel_rfl) (by kernel_rfl) (fun _ _ _ h => h) (Or.inl ⟨by rfl, ?_⟩) (by assumption) ?_
                  rotate_left
                  · (intro w hSw; (try dsimp only at hSw); (go_simp <;> with_reducible rfl))
                  try simp only [Act.put, List.setIfInBounds_toArray, List.set_cons_zero, List.set_cons_succ]
                  refine wpAnyH_take (i := 6) (oi := { dst := some 143, op := Go.Op.move (Go.Operand.tmp 142), type := 4, pos := "outright.go:129", after := #[{ on := 5, ground := Go.Ground.data }, { on := 4, ground := Go.Ground.chain }, { on := 4, ground := Go.Ground.guard }], guard := some (4, false) }) (v := ?_) rfl (by kernel_rfl) (by kernel_rfl) (by kernel_rfl) (fun _ _ _ h => h) (Or.inl ⟨by rfl, ?_⟩) (by assumption) ?_
                  rotate_left
                  · (intro w hSw; (try dsimp only at hSw); (go_simp <;> with_reducible rfl))
                  try simp only [Act.put, List.setIfInBounds_toArray, List.set_cons_zero, List.set_cons_succ]
                  refine wpAnyH_take (i := 7) (oi := { dst := some 144, op := Go.Op.load 78 (Go.Operand.tmp 18), type := 78, pos := "outright.go:129", after := #[{ on := 6, ground := Go.Ground.guard }], guard := some (6, true) }) (v := ?_) rfl (by kernel_rfl) (by kernel_rfl) (by kernel_rfl) (fun _ _ _ h => h) (Or.inl ⟨by rfl, ?_⟩) (by assumption) ?_
                  rotate_left
                  · (intro w hSw; (try dsimp only at hSw); (go_simp <;> with_reducible rfl))
                  try simp only [Act.put, List.setIfInBounds_toArray, List.set_cons_zero, List.set_cons_succ]
                  refine wpAnyH_take (i := 8) (oi := { dst := some 145, op := Go.Op.move (Go.Operand.tmp 9), type := 25, pos := "outright.go:129", after := #[{ on := 6, ground := Go.Ground.guard }], guard := some (6, true) }) (v := ?_) rfl (by kernel_rfl) (by kernel_rfl) (by kernel_rfl) (fun _ _ _ h => h) (Or.inl ⟨by rfl, ?_⟩) (by assumption) ?_
                  rotate_left
                  · (intro w hSw; (try dsimp only at hSw); (go_simp <;> with_reducible rfl))
                  try simp only [Act.put, List.setIfInBounds_toArray, List.set_cons_zero, List.set_cons_succ]
                  refine wpAnyH_take (i := 9) (oi := { dst := some 146, op := Go.Op.move (Go.Operand.tmp 17), type := 3, pos := "outright.go:129", after := #[{ on := 6, ground := Go.Ground.guard }], guard := some (6, true) }) (v := ?_) rfl (by kernel_rfl) (by kernel_rfl) (by kernel_rfl) (fun _ _ _ h => h) (Or.inl ⟨by rfl, ?_⟩) (by assumption) ?_
                  rotate_left
                  · (intro w hSw; (try dsimp only at hSw); (go_simp <;> with_reducible rfl))
                  try simp only [Act.put, List.setIfInBounds_toArray, List.set_cons_zero, List.set_cons_succ]
                  refine wpAnyH_take (i := 10) (oi := { dst := some 147, op := Go.Op.indexAddr 25 (Go.Operand.tmp 145) (Go.Operand.tmp 146), type := 0, pos := "outright.go:129", after := #[{ on := 8, ground := Go.Ground.data }, { on := 9, ground := Go.Ground.data }, { on := 6, ground := Go.Ground.guard }], guard := some (6, true) }) (v := ?_) rfl (by kernel_rfl) (by kernel_rfl) (by kernel_rfl) (fun _ _ _ h => h) (Or.inl ⟨by rfl, ?_⟩) (by assumption) ?_
                  rotate_left
                  · (intro w hSw; (try dsimp only at hSw); (go_simp <;> with_reducible rfl))
                  try simp only [Act.put, List.setIfInBounds_toArray, List.set_cons_zero, List.set_cons_succ]
                  refine wpAnyH_take (i := 11) (oi := { dst := some 148, op := Go.Op.load 78 (Go.Operand.tmp 147), type := 78, pos := "outright.go:129", after := #[{ on := 10, ground := Go.Ground.data }, { on := 6, ground := Go.Ground.guard }], guard := some (6, true) }) (v := ?_) rfl (by kernel_rfl) (by kernel_rfl) (by kernel_rfl) (fun _ _ _ h => h) (Or.inl ⟨by rfl, ?_⟩) (by assumption) ?_
                  rotate_left
                  · (intro w hSw; (try dsimp only at hSw); (go_simp <;> with_reducible rfl))
                  try simp only [Act.put, List.setIfInBounds_toArray, List.set_cons_zero, List.set_cons_succ]
                  refine wpAnyH_take (i := 12) (oi := { dst := some 149, op := Go.Op.binOp Go.BinOp.neq 78 (Go.Operand.tmp 144) (Go.Operand.tmp 148) 78, type := 4, pos := "outright.go:129", after := #[{ on := 7, ground := Go.Ground.data }, { on := 11, ground := Go.Ground.data }, { on := 6, ground := Go.Ground.guard }], guard := some (6, true) }) (v := ?_) rfl (by kernel_rfl) (by kernel_rfl) (by kernel_rfl) (fun _ _ _ h => h) (Or.inl ⟨by rfl, ?_⟩) (by assumption) ?_
                  rotate_left
                  · (intro w hSw; refine neq_op (x := .tmp 144) (y := .tmp 148) (p := (xi : Int)) (q := (xs : Int)) (r := xu) ?_ ?_ ?_ w <;> rfl)
                  try simp only [Act.put, List.setIfInBounds_toArray, List.set_cons_zero, List.set_cons_succ]
                  refine wpAnyH_take (i := 13) (oi := { dst := some 150, op := Go.Op.pick (Go.Operand.tmp 143) (Go.Operand.tmp 149) (Go.Operand.const (Go.Value.bool false)), type := 4, pos := "outright.go:129", after := #[{ on := 6, ground := Go.Ground.data }, { on := 12, ground := Go.Ground.data }, { on := 4, ground := Go.Ground.guard }], guard := some (4, false) }) (v := ?_) rfl (by kernel_rfl) (by kernel_rfl) (by kernel_rfl) (fun _ _ _ h => h) (Or.inl ⟨by rfl, ?_⟩) (by assumption) ?_
                  rotate_left
                  · (intro w hSw; (try dsimp only at hSw); (go_simp <;> with_reducible rfl))
                  try simp only [Act.put, List.setIfInBounds_toArray, List.set_cons_zero, List.set_cons_succ]
                  refine wpAnyH_take (i := 14) (oi := { dst := some 151, op := Go.Op.pick (Go.Operand.tmp 141) (Go.Operand.const (Go.Value.bool true)) (Go.Operand.tmp 150), type := 4, pos := "outright.go:129", after := #[{ on := 4, ground := Go.Ground.data }, { on := 13, ground := Go.Ground.data }], guard := none }) (v := ?_) rfl (by kernel_rfl) (by kernel_rfl) (by kernel_rfl) (fun _ _ _ h => h) (Or.inl ⟨by rfl, ?_⟩) (by assumption) ?_
                  rotate_left
                  · (intro w hSw; (try dsimp only at hSw); (go_simp <;> with_reducible rfl))
                  try simp only [Act.put, List.setIfInBounds_toArray, List.set_cons_zero, List.set_cons_succ]
                  refine wpAnyH_done (by kernel_rfl) ?_ _
                  go_wp2
                  go_roundg (gk - 1)
                  case measure => omega
                  case rel => exact ⟨j + 1, c0 + 1, by omega, by go_num, by go_num, HCt.out, Cs, HF5.out⟩
                · have HS : Hid (¬ (xu = 0 ∨ last < xu)) := fun e => by omega
                  have d1 : decide (last < xu) = false := by rw [decide_eq_false_iff_not]; exact hlt
                  have d2 : decide (xu > last) = false := d1
                  rw [if_neg HS.out] at HG'
                  simp only [Option.getD, Option.isSome, Bool.false_eq_true, if_false, bgV] at HG'
                  have HCt := hide (show c0 = (tik (S.L.take (j + 1)) last).length by rw [← take_rd HJ.out, tik_snoc, HRd.out, if_neg HS.out, HC0.out]; rfl)
                  go_wp2_with fail
                  refine (HG'.out _ _ HB1.out).mono ?_
                  rintro e w6 ⟨rfl, hh⟩
                  have hh2 := hh.box [.int .u32 (0 : Int), .int .i64 (0 : Int), .int .i64 0] 78
                  have r0 := hh2.cell (List.mem_cons_of_mem _ (HB.out.2 _ hm)) _ _ t0
                  have r1 := hh2.cell (List.mem_cons_of_mem _ (HB.out.2 _ hm)) _ _ t1
                  have r2 := hh2.cell (List.mem_cons_of_mem _ (HB.out.2 _ hm)) _ _ t2
                  have HSub := hide HB.out.2
                  clear x0 HB1 HB hh HG'
                  go_wp2
                  generalize World.alloc w6 _ = w8 at *
                  generalize w6.heap.size = X1 at *
                  obtain ⟨Cs, HF5⟩ : ∃ Cs, Hid (Lk w w8.drew b T 301 pp Cs ∧ ∀ x ∈ Rb, x ∈ Cs) := ⟨_, hh2.drew, fun x hx => List.mem_cons_of_mem _ (HSub.out x hx)⟩
                  clear hh2 HSub r0 r1 r2
                  refine wp_region_held_drew (S := (fun W => True)) (by kernel_rfl) ?_ (fun hHeld => ?_)
                  · (trivial)
                  refine wpAnyH_take (i := 0) (oi := { dst := some 137, op := Go.Op.move (Go.Operand.tmp 20), type := 4, pos := "outright.go:129", after := #[], guard := none }) (v := ?_) rfl (by kernel_rfl) (by kernel_rfl) (by kernel_rfl) (fun _ _ _ h => h) (Or.inl ⟨by rfl, ?_⟩) (by assumption) ?_
                  rotate_left
                  · (intro w hSw; (try dsimp only at hSw); (go_simp <;> with_reducible rfl))
                  try simp only [Act.put, List.setIfInBounds_toArray, List.set_cons_zero, List.set_cons_succ]
                  refine wpAnyH_take (i := 1) (oi := { dst := some 138, op := Go.Op.move (Go.Operand.tmp 19), type := 32, pos := "outright.go:129", after := #[], guard := none }) (v := ?_) rfl (by kernel_rfl) (by kernel_rfl) (by kernel_rfl) (fun _ _ _ h => h) (Or.inl ⟨by rfl, ?_⟩) (by assumption) ?_
                  rotate_left
                  · (intro w hSw; (try dsimp only at hSw); (go_simp <;> with_reducible rfl))
                  try simp only [Act.put, List.setIfInBounds_toArray, List.set_cons_zero, List.set_cons_succ]
                  refine wpAnyH_take (i := 2) (oi := { dst := some 139, op := Go.Op.binOp Go.BinOp.eql 32 (Go.Operand.tmp 138) (Go.Operand.const (Go.Value.int Go.IntKind.i64 0)) 32, type := 4, pos := "outright.go:129", after := #[{ on := 1, ground := Go.Ground.data }], guard := none }) (v := ?_) rfl (by kernel_rfl) (by kernel_rfl) (by kernel_rfl) (fun _ _ _ h => h) (Or.inl ⟨by rfl, ?_⟩) (by assumption) ?_
                  rotate_left
                  · (intro w hSw; (try dsimp only at hSw); (go_simp <;> with_reducible rfl))
                  try simp only [Act.put, List.setIfInBounds_toArray, List.set_cons_zero, List.set_cons_succ]
                  refine wpAnyH_take (i := 3) (oi := { dst := some 140, op := Go.Op.binOp Go.BinOp.neq 4 (Go.Operand.tmp 137) (Go.Operand.tmp 139) 4, type := 4, pos := "outright.go:129", after := #[{ on := 0, ground := Go.Ground.data }, { on := 2, ground := Go.Ground.data }], guard := none }) (v := ?_) rfl (by kernel_rfl) (by kernel_rfl) (by kernel_rfl) (fun _ _ _ h => h) (Or.inl ⟨by rfl, ?_⟩) (by assumption) ?_
                  rotate_left
                  · (intro w hSw; (try dsimp only at hSw); (go_simp <;> with_reducible rfl))
                  try simp only [Act.put, List.setIfInBounds_toArray, List.set_cons_zero, List.set_cons_succ]
                  refine wpAnyH_take (i := 4) (oi := { dst := some 141, op := Go.Op.move (Go.Operand.tmp 140), type := 4, pos := "outright.go:129", after := #[{ on := 3, ground := Go.Ground.data }], guard := none }) (v := ?_) rfl (by kernel_rfl) (by kernel_rfl) (by kernel_rfl) (fun _ _ _ h => h) (Or.inl ⟨by rfl, ?_⟩) (by assumption) ?_
                  rotate_left
                  · (intro w hSw; (try dsimp only at hSw); (go_simp <;> with_reducible rfl))
                  try simp only [Act.put, List.setIfInBounds_toArray, List.set_cons_zero, List.set_cons_succ]
                  refine wpAnyH_take (i := 5) (oi := { dst := some 142, op := Go.Op.move (Go.Operand.tmp 20), type := 4, pos := "outright.go:129", after := #[{ on := 4, ground := Go.Ground.guard }], guard := some (4, false) }) (v := ?_) rfl (by kernel_rfl) (by kernel_rfl) (by kernel_rfl) (fun _ _ _ h => h) (Or.inl ⟨by rfl, ?_⟩) (by assumption) ?_
                  rotate_left
                  · (intro w hSw; (try dsimp only at hSw); (go_simp <;> with_reducible rfl))
                  try simp only [Act.put, List.setIfInBounds_toArray, List.set_cons_zero, List.set_cons_succ]
                  refine wpAnyH_take (i := 6) (oi := { dst := some 143, op := Go.Op.move (Go.Operand.tmp 142), type := 4, pos := "outright.go:129", after := #[{ on := 5, ground := Go.Ground.data }, { on := 4, ground := Go.Ground.chain }, { on := 4, ground := Go.Ground.guard }], guard := some (4, false) }) (v := ?_) rfl (by kernel_rfl) (by kernel_rfl) (by kernel_rfl) (fun _ _ _ h => h) (Or.inl ⟨by rfl, ?_⟩) (by assumption) ?_
                  rotate_left
                  · (intro w hSw; (try dsimp only at hSw); (go_simp <;> with_reducible rfl))
                  try simp only [Act.put, List.setIfInBounds_toArray, List.set_cons_zero, List.set_cons_succ]
                  refine wpAnyH_take (i := 7) (oi := { dst := some 144, op := Go.Op.load 78 (Go.Operand.tmp 18), type := 78, pos := "outright.go:129", after := #[{ on := 6, ground := Go.Ground.guard }], guard := some (6, true) }) (v := undef) rfl (by kernel_rfl) (by kernel_rfl) (by kernel_rfl) (fun _ _ _ h => h) (Or.inr ⟨by rfl, rfl⟩) (by assumption) ?_
                  try simp only [Act.put, List.setIfInBounds_toArray, List.set_cons_zero, List.set_cons_succ]
                  refine wpAnyH_take (i := 8) (oi := { dst := some 145, op := Go.Op.move (Go.Operand.tmp 9), type := 25, pos := "outright.go:129", after := #[{ on := 6, ground := Go.Ground.guard }], guard := some (6, true) }) (v := undef) rfl (by kernel_rfl) (by kernel_rfl) (by kernel_rfl) (fun _ _ _ h => h) (Or.inr ⟨by rfl, rfl⟩) (by assumption) ?_
                  try simp only [Act.put, List.setIfInBounds_toArray, List.set_cons_zero, List.set_cons_succ]
                  refine wpAnyH_take (i := 9) (oi := { dst := some 146, op := Go.Op.move (Go.Operand.tmp 17), type := 3, pos := "outright.go:129", after := #[{ on := 6, ground := Go.Ground.guard }], guard := some (6, true) }) (v := undef) rfl (by kernel_rfl) (by kernel_rfl) (by kernel_rfl) (fun _ _ _ h => h) (Or.inr ⟨by rfl, rfl⟩) (by assumption) ?_
                  try simp only [Act.put, List.setIfInBounds_toArray, List.set_cons_zero, List.set_cons_succ]
                  refine wpAnyH_take (i := 10) (oi := { dst := some 147, op := Go.Op.indexAddr 25 (Go.Operand.tmp 145) (Go.Operand.tmp 146), type := 0, pos := "outright.go:129", after := #[{ on := 8, ground := Go.Ground.data }, { on := 9, ground := Go.Ground.data }, { on := 6, ground := Go.Ground.guard }], guard := some (6, true) }) (v := undef) rfl (by kernel_rfl) (by kernel_rfl) (by kernel_rfl) (fun _ _ _ h => h) (Or.inr ⟨by rfl, rfl⟩) (by assumption) ?_
                  try simp only [Act.put, List.setIfInBounds_toArray, List.set_cons_zero, List.set_cons_succ]
                  refine wpAnyH_take (i := 11) (oi := { dst := some 148, op := Go.Op.load 78 (Go.Operand.tmp 147), type := 78, pos := "outright.go:129", after := #[{ on := 10, ground := Go.Ground.data }, { on := 6, ground := Go.Ground.guard }], guard := some (6, true) }) (v := undef) rfl (by kernel_rfl) (by kernel_rfl) (by kernel_rfl) (fun _ _ _ h => h) (Or.inr ⟨by rfl, rfl⟩) (by assumption) ?_
                  try simp only [Act.put, List.setIfInBounds_toArray, List.set_cons_zero, List.set_cons_succ]
                  refine wpAnyH_take (i := 12) (oi := { dst := some 149, op := Go.Op.binOp Go.BinOp.neq 78 (Go.Operand.tmp 144) (Go.Operand.tmp 148) 78, type := 4, pos := "outright.go:129", after := #[{ on := 7, ground := Go.Ground.data }, { on := 11, ground := Go.Ground.data }, { on := 6, ground := Go.Ground.guard }], guard := some (6, true) }) (v := undef) rfl (by kernel_rfl) (by kernel_rfl) (by kernel_rfl) (fun _ _ _ h => h) (Or.inr ⟨by rfl, rfl⟩) (by assumption) ?_
                  try simp only [Act.put, List.setIfInBounds_toArray, List.set_cons_zero, List.set_cons_succ]
                  refine wpAnyH_take (i := 13) (oi := { dst := some 150, op := Go.Op.pick (Go.Operand.tmp 143) (Go.Operand.tmp 149) (Go.Operand.const (Go.Value.bool false)), type := 4, pos := "outright.go:129", after := #[{ on := 6, ground := Go.Ground.data }, { on := 12, ground := Go.Ground.data }, { on := 4, ground := Go.Ground.guard }], guard := some (4, false) }) (v := ?_) rfl (by kernel_rfl) (by kernel_rfl) (by kernel_rfl) (fun _ _ _ h => h) (Or.inl ⟨by rfl, ?_⟩) (by assumption) ?_
                  rotate_left
                  · (intro w hSw; (try dsimp only at hSw); (go_simp <;> with_reducible rfl))
                  try simp only [Act.put, List.setIfInBounds_toArray, List.set_cons_zero, List.set_cons_succ]
                  refine wpAnyH_take (i := 14) (oi := { dst := some 151, op := Go.Op.pick (Go.Operand.tmp 141) (Go.Operand.const (Go.Value.bool true)) (Go.Operand.tmp 150), type := 4, pos := "outright.go:129", after := #[{ on := 4, ground := Go.Ground.data }, { on := 13, ground := Go.Ground.data }], guard := none }) (v := ?_) rfl (by kernel_rfl) (by kernel_rfl) (by kernel_rfl) (fun _ _ _ h => h) (Or.inl ⟨by rfl, ?_⟩) (by assumption) ?_
                  rotate_left
                  · (intro w hSw; (try dsimp only at hSw); (go_simp <;> with_reducible rfl))
                  try simp only [Act.put, List.setIfInBounds_toArray, List.set_cons_zero, List.set_cons_succ]
                  refine wpAnyH_done (by kernel_rfl) ?_ _
                  go_wp2
                  go_roundg (gk - 1)
                  case measure => omega
                  case rel => exact ⟨j + 1, c0, by omega, by go_num, rfl, HCt.out, Cs, HF5.out⟩
            · have hj : j = n := by omega
              subst hj
              have hc : c0 = (tik S.L last).length := by
                rw [HC0.out, ← HN.out, List.take_length]
              rw [← hc] at HLn
              go_wp2_with fail
              refine (HLn.out _ _ HB.out.1).mono ?_
              rintro e w8 ⟨rfl, rfl⟩
              have HE := hide HB.out.1.gr
              clear HB HLn
              go_wp2
              go_ret
              exact ⟨rfl, HE.out⟩
end Go.Proofs.YtcbiloomnkbalaaGreatDoor
