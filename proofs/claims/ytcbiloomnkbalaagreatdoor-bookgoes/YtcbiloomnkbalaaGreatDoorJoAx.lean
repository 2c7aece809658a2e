/- Texts joined: BkQ. -/
import Derived.Test.YtcbiloomnkbalaaGreatDoorJoAw
/- BookSound, walked. -/
namespace Go.Proofs.YtcbiloomnkbalaaGreatDoor
open Go.RowKit
attribute [local go_sem ↓] Go.wp_at_zero Go.wp_at_succ
attribute [local go_sem] Oper.semAt_some
section
variable {w w1 W W' : World} {b : Nat} {S S' : Sb} {K K' : Nat} {p q : Bp} {Bs : List (Nat × List Value × TypeId)}
theorem Lk.base (h : Lk w1 W b S K p Bs) (g : w.grownBy w1 none) : Lk w W b S K p Bs :=
  ⟨h.eb, h.bk, grown_trans g h.gr, fun i hi => Nat.le_trans g.size (h.own i hi), fun x hx => ⟨(h.bx x hx).1, (h.bx x hx).2.1, Nat.le_trans g.size (h.bx x hx).2.2⟩⟩
/-- A row of bookings that was made behind the book, taken among the boxes. -/
theorem Lk.row {B : Nat} {v : Value} {X : List Bg} (h : Lk w W b S K p Bs) (hr : W.ownsRow B 78 3 v X.length (bgs X)) (hB : ∀ i, p.own i → i < B) (hw : w.heap.size ≤ B) : ∃ vo cap Rb, v = .slice vo X.length cap ∧ Lk w W b S K p (Rb ++ Bs) ∧ ∀ j, j < X.length → ∃ g cs, vo = some ⟨g, 0, none⟩ ∧ (g, cs, 78) ∈ Rb ++ Bs ∧ cs[j * 3]? = some (.int .u32 ((rd X j).i : Int)) ∧ cs[j * 3 + 1]? = some (.int .i64 ((rd X j).s : Int)) ∧ cs[j * 3 + 2]? = some (.int .i64 (rd X j).u) := by
  obtain ⟨vo, vcap, rfl, hle⟩ := Ix.own_form hr
  by_cases hn : 0 < X.length
  · obtain ⟨g, c, cur, e1, e2, e3, e4, e5, e6, e7⟩ := Ix.own_row hr hn
    cases e1
    refine ⟨_, _, [(g, cur, 78)], rfl, ⟨h.eb, h.bk, h.gr, h.own, fun x hx => ?_⟩, fun j hj => ?_⟩
    · rcases List.mem_append.1 hx with hx | hx
      · simp only [List.mem_singleton] at hx
        subst hx
        exact ⟨e3, fun e => by have := hB _ e; omega, by simp only; omega⟩
      · exact h.bx x hx
    · obtain ⟨b1, b2, b3⟩ := bgs_get hj
      refine ⟨g, cur, rfl, by simp, ?_, ?_, ?_⟩
      · have := Ix.own_cell e3 e7 b1; rw [cell_row e3] at this; exact this
      · have := Ix.own_cell e3 e7 b2; rw [cell_row e3] at this; exact this
      · have := Ix.own_cell e3 e7 b3; rw [cell_row e3] at this; exact this
  · refine ⟨_, _, [], rfl, h, fun j hj => absurd hj (by omega)⟩
end
/-- The least until of what is held. -/
def Pr (L : List Bg) (a : Int) : Prop := (a = 0 ∧ ∀ y ∈ L, y.u = 0) ∨ (a ≠ 0 ∧ (∃ x ∈ L, x.u = a) ∧ ∀ y ∈ L, y.u ≠ 0 → a ≤ y.u)
theorem Pr.keep {L : List Bg} {a : Int} {x : Bg} (h : Pr L a) (hx : x.u = 0 ∨ (a ≠ 0 ∧ a ≤ x.u)) : Pr (L ++ [x]) a := by
  rcases h with ⟨rfl, h⟩ | ⟨h0, ⟨z, hz, hze⟩, h⟩
  · refine .inl ⟨rfl, fun y hy => ?_⟩
    rcases List.mem_append.1 hy with hy | hy
    · exact h y hy
    · simp at hy; subst hy
      rcases hx with hx | hx
      · exact hx
      · exact absurd rfl hx.1
  · refine .inr ⟨h0, ⟨z, by simp [hz], hze⟩, fun y hy hu => ?_⟩
    rcases List.mem_append.1 hy with hy | hy
    · exact h y hy hu
    · simp at hy; subst hy
      rcases hx with hx | hx
      · exact absurd hx hu
      · exact hx.2
theorem Pr.take {L : List Bg} {a : Int} {x : Bg} (h : Pr L a) (hx : x.u ≠ 0) (hlt : a = 0 ∨ x.u < a) : Pr (L ++ [x]) x.u := by
  refine .inr ⟨hx, ⟨x, by simp, rfl⟩, fun y hy hu => ?_⟩
  rcases List.mem_append.1 hy with hy | hy
  · rcases h with ⟨rfl, h⟩ | ⟨h0, -, h⟩
    · exact absurd (h y hy) hu
    · have := h y hy hu
      rcases hlt with hlt | hlt <;> omega
  · simp at hy; subst hy; omega
theorem Pr.due {S : Sb} {a : Int} {x : Bg} {c : Bool} (h : Pr S.L a) (hF : Fst S x c) : x.u = a ∧ ((a = 0 ∧ c = false) ∨ (a ≠ 0 ∧ c = true)) := by
  rcases h with ⟨rfl, h⟩ | ⟨h0, ⟨z, hz, hze⟩, h⟩ <;> rcases hF with ⟨rfl, rfl, hF⟩ | ⟨rfl, hx, hu, hF⟩
  · exact ⟨rfl, .inl ⟨rfl, rfl⟩⟩
  · exact absurd (h x hx) hu
  · exact absurd (hze.symm.trans (hF z hz)) h0
  · have h1 := h x hx hu
    have h2 := hF z hz (by omega)
    exact ⟨by omega, .inr ⟨h0, rfl⟩⟩
/-- How many lie below a seat. -/
def cntS (L : List Bg) (s : Nat) : Nat := (L.filter fun x => decide (x.s < s)).length
theorem cntS_no {L : List Bg} {s : Nat} (h : ∀ x ∈ L, x.s ≠ s) : cntS L (s + 1) = cntS L s := by
  unfold cntS
  rw [List.filter_congr (fun x hx => ?_)]
  have := h x hx
  rw [decide_eq_decide]
  omega
theorem cntS_cons (x : Bg) (L : List Bg) (s : Nat) : cntS (x :: L) s = cntS L s + (if x.s < s then 1 else 0) := by
  unfold cntS
  rw [List.filter_cons]
  by_cases h : x.s < s
  · simp [h]
  · simp [h]
theorem cntS_succ {L : List Bg} (h : OneS L) (s : Nat) : cntS L (s + 1) = cntS L s + (if (sat L s).isSome then 1 else 0) := by
  induction L with
  | nil => rfl
  | cons y r ih =>
    have h1 := List.pairwise_cons.1 h
    rw [cntS_cons, cntS_cons]
    by_cases e : y.s = s
    · have hs : (sat (y :: r) s).isSome = true := sat_isSome.2 ⟨y, by simp, e⟩
      rw [hs, cntS_no (fun x hx e' => h1.1 x hx (e.trans e'.symm)), if_pos (by omega), if_neg (by omega), if_pos rfl]
    · have hs : (sat (y :: r) s).isSome = (sat r s).isSome := by
        unfold sat
        rw [List.find?_cons_of_neg (by simpa using e)]
      rw [hs, ih h1.2]
      by_cases h2 : y.s < s
      · rw [if_pos h2, if_pos (show y.s < s + 1 by omega)]; omega
      · rw [if_neg h2, if_neg (show ¬ y.s < s + 1 by omega)]; omega
theorem cntS_all {L : List Bg} {s : Nat} (h : ∀ x ∈ L, x.s < s) : cntS L s = L.length := by
  unfold cntS
  rw [List.filter_eq_self.2 (fun x hx => by simpa using h x hx)]
theorem cntS_zero (L : List Bg) : cntS L 0 = 0 := by
  unfold cntS
  rw [List.filter_eq_nil_iff.2 (fun x _ => by simp)]
  rfl
theorem neq_op {a : Act} {o : Oper} {x y : Operand} {p q r : Int} (ho : o.op = .binOp .neq 78 x y 78) (hx : a.eval x = .agg #[.int .u32 p, .int .i64 q, .int .i64 r]) (hy : a.eval y = .agg #[.int .u32 p, .int .i64 q, .int .i64 r]) (w : World) : (execOp a.eval o).run Tryz.prog w = .ok (.value (.bool false)) w := by
  unfold execOp
  simp only [ho, hx, hy]
  go_simp
theorem geq_op {a : Act} {o : Oper} {x y : Operand} {t : TypeId} {k : IntKind} {p q : Int} (ho : o.op = .binOp .geq t x y t) (hx : a.eval x = .int k p) (hy : a.eval y = .int k q) (h : p < q) (w : World) : (execOp a.eval o).run Tryz.prog w = .ok (.value (.bool false)) w := by
  have hd : decide (p ≥ q) = false := by rw [decide_eq_false_iff_not]; omega
  unfold execOp
  simp only [ho, hx, hy]
  go_simp
theorem rd_mem {L : List Bg} {j : Nat} (hj : j < L.length) : rd L j ∈ L := by
  unfold rd; rw [List.getElem?_eq_getElem hj]; exact List.getElem_mem hj
theorem rd_asc {L : List Bg} (h : AscB L) {j k : Nat} (hjk : j < k) (hk : k < L.length) : (rd L j).i < (rd L k).i := by
  unfold rd
  rw [List.getElem?_eq_getElem hk, List.getElem?_eq_getElem (by omega)]
  exact List.pairwise_iff_getElem.1 h j k (by omega) hk hjk
set_option maxRecDepth 20000 in
set_option maxHeartbeats 32000000 in
theorem sound_any {w : World} {ao : Option Addr} {len cap : Nat} {rs : List Rc} (hl : rs.length = len) (hR : RecsAt w ao rs) (hO : ∀ r ∈ rs, r.Ok) (hT : Rk.Tab w) : Calls Tryz.prog 5 #[.slice ao len cap] w fun e w' => e = .returned (.bool true) ∧ w.grownBy w' none := by
  have HAw := hide (awake_any w hT)
  have HMd : Hid (∀ W, w.grownBy W none → Calls Tryz.prog 25 #[.slice ao len cap] W fun e w' => ∃ b S p, e = .returned (.tuple #[.pointer (some ⟨b, 0, none⟩), .bool true]) ∧ S.Mk ∧ Lk w w' b S 300 p []) := by
    intro W g
    refine (made_any hl (hR.grown g) hO (hT.grown g (by simp))).mono ?_
    rintro e w' ⟨b, S, p, rfl, h1, h2⟩
    exact ⟨b, S, p, rfl, h1, h2.base g⟩
  clear hl hR hO hT
  go_enter Tryz.func5, Tryz.ntmps5
  go_wp2_with fail
  refine HAw.out.mono ?_
  rintro e w1 ⟨rfl, hg1⟩
  go_wp2_with fail
  refine (HMd.out _ hg1).mono ?_
  rintro e w2 ⟨b, S, p, rfl, hM, hh⟩
  have HM := hide hM
  have H2 := hide hh
  clear HMd HAw hg1 hh hM
  go_wp2_with fail
  refine (H2.out.all HM.out.1.wk).mono ?_
  rintro e w3 ⟨u, rfl, hV, hh⟩
  have H3 := hide (And.intro hV hh)
  clear hV hh H2
  go_wp2_with fail
  refine (told_any H3.out.1 (by have := HM.out.1.few; have := HM.out.2.2.1; omega)).mono ?_
  rintro e w4 ⟨v, rfl, hr, hg4⟩
  obtain ⟨vo, vcap, Rb, rfl, h4, hcl⟩ := (H3.out.2.then hg4).row hr H3.out.2.bk.lt H3.out.2.gr.size
  simp only [List.append_nil] at h4 hcl
  have H4 := hide h4
  have HRow := hide hcl
  have HLen := hide H4.out.len
  have HX : Hid (∀ W Bs, Lk w W b S 300 p Bs → Calls Tryz.prog 31 #[.pointer (some ⟨b, 0, none⟩)] W fun e w' => e = .returned (.int .u32 (S.n : Int)) ∧ w' = W) := fun W Bs h => h.next
  have HK : Hid (∀ W Bs, Lk w W b S 300 p Bs → Calls Tryz.prog 32 #[.pointer (some ⟨b, 0, none⟩)] W fun e w' => e = .returned (.int .i64 S.t) ∧ w' = W) := fun W Bs h => h.clock
  have HG : Hid (∀ W Bs j, Lk w W b S 300 p Bs → j < S.L.length → Calls Tryz.prog 29 #[.pointer (some ⟨b, 0, none⟩), .int .u32 ((rd S.L j).i : Int)] W fun e w' => e = .returned (.tuple #[.agg #[.int .u32 ((rd S.L j).i : Int), .int .i64 ((rd S.L j).s : Int), .int .i64 (rd S.L j).u], .int .i64 0]) ∧ Lk w w' b S 300 p Bs) := by
    intro W Bs j h hj
    have hm := rd_mem hj
    have := h.get HM.out.1.wk (rd S.L j).i (by have := HM.out.1.id _ hm; have := HM.out.1.n1; omega)
    rw [(fnd_some HM.out.1.asc).2 ⟨hm, rfl⟩] at this
    exact this
  have HAt : Hid (∀ W Bs j, Lk w W b S 300 p Bs → j < S.L.length → Calls Tryz.prog 30 #[.pointer (some ⟨b, 0, none⟩), .int .i64 ((rd S.L j).s : Int)] W fun e w' => e = .returned (.tuple #[.agg #[.int .u32 ((rd S.L j).i : Int), .int .i64 ((rd S.L j).s : Int), .int .i64 (rd S.L j).u], .int .i64 0]) ∧ Lk w w' b S 300 p Bs) := by
    intro W Bs j h hj
    have hm := rd_mem hj
    have := h.seat HM.out.1.wk ((rd S.L j).s : Int)
    have hs := HM.out.1.st _ hm
    have hc : (0 : Int) ≤ ((rd S.L j).s : Int) ∧ ((rd S.L j).s : Int) < (S.a : Int) := by omega
    unfold atX atE at this
    rw [if_pos hc, if_pos hc, Int.toNat_natCast, (sat_some HM.out.1.one).2 ⟨hm, rfl⟩] at this
    exact this
  have HBd : Hid (∀ j, j < S.L.length → 1 ≤ (rd S.L j).i ∧ (rd S.L j).i < S.n ∧ (rd S.L j).s < 12 ∧ ((rd S.L j).u = 0 ∨ S.t < (rd S.L j).u)) := by
    intro j hj
    have hm := rd_mem hj
    have h1 := HM.out.1.id _ hm
    have h2 := HM.out.1.st _ hm
    rw [HM.out.2.1] at h2
    refine ⟨h1.1, h1.2, h2, ?_⟩
    rcases HM.out.1.til _ hm with h | h
    · exact .inl h
    · exact .inr h.1
  have hn8 : ¬ (8 : Int) < (S.L.length : Int) := by have := HM.out.1.few; have := HM.out.2.2.1; omega
  clear H3 hr hg4 h4 hcl
  generalize hnn : S.L.length = n at *
  have HN := hide hnn
  clear hnn
  go_wp2_with fail
  refine HLen.out.mono ?_
  rintro e w5 ⟨rfl, rfl⟩
  go_wp2
  go_loopg [7, 8, 10] n (fun k la le i wr => ∃ (j l : Nat) (a : Int), k + j = n ∧ i = .int .i64 j ∧ la = .int .u32 (l : Int) ∧ le = .int .i64 a ∧ Hid (∀ k, j ≤ k → k < S.L.length → l < (rd S.L k).i) ∧ Hid (Pr (S.L.take j) a) ∧ ∃ Bs, Hid (Lk w wr b S 300 p Bs ∧ ∀ x ∈ Rb, x ∈ Bs))
  case atStart => exact ⟨0, 0, 0, by omega, rfl, rfl, rfl, (fun k _ hk => (HBd.out k (by have := HN.out; omega)).1), .inl ⟨rfl, fun y hy => by simp at hy⟩, _, H4.out, fun x hx => hx⟩
  case round =>
    clear H4 HLen
    obtain ⟨j, l, a, hkj, rfl, rfl, rfl, HLl, HP, Bs, HB⟩ := hrel
    by_cases hk : 0 < gk
    · have hj : j < S.L.length := by rw [HN.out]; omega
      have HJ := hide hj
      have h1 : (0 : Int) ≤ (j : Int) := by omega
      have h2 : (j : Int) < (n : Int) := by omega
      obtain ⟨g, cs, rfl, hm, t0, t1, t2⟩ := HRow.out j (by omega)
      have x0 := HB.out.1.cell (HB.out.2 _ hm) _ _ t0
      have x1 := HB.out.1.cell (HB.out.2 _ hm) _ _ t1
      have x2 := HB.out.1.cell (HB.out.2 _ hm) _ _ t2
      have HG' := hide (fun W Bs h => HG.out W Bs j h (by omega))
      have HAt' := hide (fun W Bs h => HAt.out W Bs j h (by omega))
      obtain ⟨hb1, hb2, hb3, hb4⟩ := HBd.out j (by omega)
      have hll := HLl.out j (Nat.le_refl _) hj
      have HLast : Hid (∀ k, j + 1 ≤ k → k < S.L.length → (rd S.L j).i < (rd S.L k).i) := fun k hk hk2 => rd_asc HM.out.1.asc (by omega) hk2
      obtain ⟨xx, hxx⟩ : ∃ xx, rd S.L j = xx := ⟨_, rfl⟩
      rw [hxx] at x0 x1 x2 HG' HAt' hb1 hb2 hb3 hb4 hll HLast
      obtain ⟨xi, xs, xu⟩ := xx
      simp only at x0 x1 x2 HG' HAt' hb1 hb2 hb3 hb4 hll HLast
      have HRd := hide hxx
      clear hxx hm t0 t1 t2 hj HRow HG HAt HBd
      go_wp2_with fail
      have HB1 := hide (HB.out.1.box [.int .u32 (xi : Int), .int .i64 (xs : Int), .int .i64 xu] 78)
      refine (HG'.out _ _ HB1.out).mono ?_
      rintro e w6 ⟨rfl, hh⟩
      have x0 := hh.cell List.mem_cons_self 0 _ rfl
      have x1 := hh.cell List.mem_cons_self 1 _ rfl
      have x2 := hh.cell List.mem_cons_self 2 _ rfl
      have HB2 := hide (hh.box [.int .u32 (xi : Int), .int .i64 (xs : Int), .int .i64 xu] 78)
      clear hh HG'
      have y1 := HB2.out.cell (List.mem_cons_of_mem _ List.mem_cons_self) 1 _ rfl
      go_wp2_with fail
      refine (HAt'.out _ _ HB2.out).mono ?_
      rintro e w7 ⟨rfl, hh⟩
      have hh2 := hh.box [.int .u32 (xi : Int), .int .i64 (xs : Int), .int .i64 xu] 78
      have HSub := hide HB.out.2
      clear x0 x1 x2 y1 HB1 HB2 HB hh HAt'
      go_wp2
      generalize World.alloc w7 _ = w8 at *
      have HD5 := hide hh2.drew
      generalize w7.heap.size = X3 at *
      generalize w6.heap.size = X2 at *
      generalize wr.heap.size = X1 at *
      have k1 : (X1, [Value.int .u32 (xi : Int), .int .i64 (xs : Int), .int .i64 xu], 78) ∈ (X3, [Value.int .u32 (xi : Int), .int .i64 (xs : Int), .int .i64 xu], 78) :: (X2, [Value.int .u32 (xi : Int), .int .i64 (xs : Int), .int .i64 xu], 78) :: (X1, [Value.int .u32 (xi : Int), .int .i64 (xs : Int), .int .i64 xu], 78) :: Bs := by simp
      have k2 : (X2, [Value.int .u32 (xi : Int), .int .i64 (xs : Int), .int .i64 xu], 78) ∈ (X3, [Value.int .u32 (xi : Int), .int .i64 (xs : Int), .int .i64 xu], 78) :: (X2, [Value.int .u32 (xi : Int), .int .i64 (xs : Int), .int .i64 xu], 78) :: (X1, [Value.int .u32 (xi : Int), .int .i64 (xs : Int), .int .i64 xu], 78) :: Bs := by simp
      have k3 : (X3, [Value.int .u32 (xi : Int), .int .i64 (xs : Int), .int .i64 xu], 78) ∈ (X3, [Value.int .u32 (xi : Int), .int .i64 (xs : Int), .int .i64 xu], 78) :: (X2, [Value.int .u32 (xi : Int), .int .i64 (xs : Int), .int .i64 xu], 78) :: (X1, [Value.int .u32 (xi : Int), .int .i64 (xs : Int), .int .i64 xu], 78) :: Bs := by simp
      have hS := fun (W : World) (h : Lk w W b S 300 p _) => And.intro (h.cell k1 0 _ rfl) (And.intro (h.cell k1 1 _ rfl) (And.intro (h.cell k1 2 _ rfl) (And.intro (h.cell k2 0 _ rfl) (And.intro (h.cell k2 1 _ rfl) (And.intro (h.cell k2 2 _ rfl) (And.intro (h.cell k3 0 _ rfl) (And.intro (h.cell k3 1 _ rfl) (h.cell k3 2 _ rfl))))))))
      have hK := hS _ hh2
      have hKD := hS _ HD5.out
      obtain ⟨Cs, HF5⟩ : ∃ Cs, Hid (Lk w w8.drew b S 300 p Cs ∧ ∀ x ∈ Rb, x ∈ Cs) := ⟨_, HD5.out, (fun x hx => List.mem_cons_of_mem _ (List.mem_cons_of_mem _ (List.mem_cons_of_mem _ (HSub.out x hx))))⟩
      clear hS k1 k2 k3 hh2 HSub
      have z0 := hKD.1
      have z2 := hKD.2.2.1
      have d1 : decide ((xi : Int) ≤ (l : Int)) = false := by rw [decide_eq_false_iff_not]; omega
      have d2 : decide ((S.n : Int) ≤ (xi : Int)) = false := by rw [decide_eq_false_iff_not]; omega
      have d3 : decide ((xs : Int) < 0) = false := by rw [decide_eq_false_iff_not]; omega
      have d4 : decide ((12 : Int) ≤ (xs : Int)) = false := by rw [decide_eq_false_iff_not]; omega
      have d5 : decide ((xi : Int) ≥ (S.n : Int)) = false := d2
      have d6 : decide ((xs : Int) ≥ 12) = false := d4
      have g1 : (xi : Int) < (S.n : Int) := by omega
      have g2 : (xs : Int) < 12 := by omega
      have e1 : ¬ ((xi : Int) ≤ (l : Int)) := by omega
      have e2 : ¬ ((S.n : Int) ≤ (xi : Int)) := by omega
      have e5 : ¬ ((xi : Int) ≥ (S.n : Int)) := e2
      have e3 : ¬ ((xs : Int) < 0) := by omega
      have e4 : ¬ ((12 : Int) ≤ (xs : Int)) := by omega
      by_cases hz : xu = 0
      · subst hz
        refine wp_region_held_drew (S := (fun W => W.cell? ⟨X1, 0, none⟩ = some (.int .u32 (xi : Int)) ∧ W.cell? ⟨X1, 1, none⟩ = some (.int .i64 (xs : Int)) ∧ W.cell? ⟨X1, 2, none⟩ = some (.int .i64 0) ∧ W.cell? ⟨X2, 0, none⟩ = some (.int .u32 (xi : Int)) ∧ W.cell? ⟨X2, 1, none⟩ = some (.int .i64 (xs : Int)) ∧ W.cell? ⟨X2, 2, none⟩ = some (.int .i64 0) ∧ W.cell? ⟨X3, 0, none⟩ = some (.int .u32 (xi : Int)) ∧ W.cell? ⟨X3, 1, none⟩ = some (.int .i64 (xs : Int)) ∧ W.cell? ⟨X3, 2, none⟩ = some (.int .i64 0))) (by kernel_rfl) ?_ (fun hHeld => ?_)
        · (exact hK)
        refine wpAnyH_take (i := 0) (oi := { dst := some 74, op := Go.Op.move (Go.Operand.tmp 13), type := 32, pos := "outright.go:49", after := #[], guard := none }) (v := ?_) rfl (by kernel_rfl) (by kernel_rfl) (by kernel_rfl) (fun _ _ _ h => h) (Or.inl ⟨by rfl, ?_⟩) (by assumption) ?_
        rotate_left
        · (intro w hSw; (try dsimp only at hSw); (go_simp <;> with_reducible rfl))
        try simp only [Act.put, List.setIfInBounds_toArray, List.set_cons_zero, List.set_cons_succ]
        refine wpAnyH_take (i := 1) (oi := { dst := some 75, op := Go.Op.binOp Go.BinOp.neq 32 (Go.Operand.tmp 74) (Go.Operand.const (Go.Value.int Go.IntKind.i64 0)) 32, type := 4, pos := "outright.go:49", after := #[{ on := 0, ground := Go.Ground.data }], guard := none }) (v := ?_) rfl (by kernel_rfl) (by kernel_rfl) (by kernel_rfl) (fun _ _ _ h => h) (Or.inl ⟨by rfl, ?_⟩) (by assumption) ?_
        rotate_left
        · (intro w hSw; (try dsimp only at hSw); (go_simp <;> with_reducible rfl))
        try simp only [Act.put, List.setIfInBounds_toArray, List.set_cons_zero, List.set_cons_succ]
        refine wpAnyH_take (i := 2) (oi := { dst := some 76, op := Go.Op.move (Go.Operand.tmp 75), type := 4, pos := "outright.go:49", after := #[{ on := 1, ground := Go.Ground.data }], guard := none }) (v := ?_) rfl (by kernel_rfl) (by kernel_rfl) (by kernel_rfl) (fun _ _ _ h => h) (Or.inl ⟨by rfl, ?_⟩) (by assumption) ?_
        rotate_left
        · (intro w hSw; (try dsimp only at hSw); (go_simp <;> with_reducible rfl))
        try simp only [Act.put, List.setIfInBounds_toArray, List.set_cons_zero, List.set_cons_succ]
        refine wpAnyH_take (i := 3) (oi := { dst := some 77, op := Go.Op.move (Go.Operand.tmp 15), type := 32, pos := "outright.go:49", after := #[{ on := 2, ground := Go.Ground.guard }], guard := some (2, false) }) (v := ?_) rfl (by kernel_rfl) (by kernel_rfl) (by kernel_rfl) (fun _ _ _ h => h) (Or.inl ⟨by rfl, ?_⟩) (by assumption) ?_
        rotate_left
        · (intro w hSw; (try dsimp only at hSw); (go_simp <;> with_reducible rfl))
        try simp only [Act.put, List.setIfInBounds_toArray, List.set_cons_zero, List.set_cons_succ]
        refine wpAnyH_take (i := 4) (oi := { dst := some 78, op := Go.Op.binOp Go.BinOp.neq 32 (Go.Operand.tmp 77) (Go.Operand.const (Go.Value.int Go.IntKind.i64 0)) 32, type := 4, pos := "outright.go:49", after := #[{ on := 3, ground := Go.Ground.data }, { on := 2, ground := Go.Ground.guard }], guard := some (2, false) }) (v := ?_) rfl (by kernel_rfl) (by kernel_rfl) (by kernel_rfl) (fun _ _ _ h => h) (Or.inl ⟨by rfl, ?_⟩) (by assumption) ?_
        rotate_left
        · (intro w hSw; (try dsimp only at hSw); (go_simp <;> with_reducible rfl))
        try simp only [Act.put, List.setIfInBounds_toArray, List.set_cons_zero, List.set_cons_succ]
        refine wpAnyH_take (i := 5) (oi := { dst := some 79, op := Go.Op.pick (Go.Operand.tmp 76) (Go.Operand.const (Go.Value.bool true)) (Go.Operand.tmp 78), type := 4, pos := "outright.go:49", after := #[{ on := 2, ground := Go.Ground.data }, { on := 4, ground := Go.Ground.data }], guard := none }) (v := ?_) rfl (by kernel_rfl) (by kernel_rfl) (by kernel_rfl) (fun _ _ _ h => h) (Or.inl ⟨by rfl, ?_⟩) (by assumption) ?_
        rotate_left
        · (intro w hSw; (try dsimp only at hSw); (go_simp <;> with_reducible rfl))
        try simp only [Act.put, List.setIfInBounds_toArray, List.set_cons_zero, List.set_cons_succ]
        refine wpAnyH_take (i := 6) (oi := { dst := some 80, op := Go.Op.move (Go.Operand.tmp 79), type := 4, pos := "outright.go:49", after := #[{ on := 5, ground := Go.Ground.data }, { on := 2, ground := Go.Ground.chain }], guard := none }) (v := ?_) rfl (by kernel_rfl) (by kernel_rfl) (by kernel_rfl) (fun _ _ _ h => h) (Or.inl ⟨by rfl, ?_⟩) (by assumption) ?_
        rotate_left
        · (intro w hSw; (try dsimp only at hSw); (go_simp <;> with_reducible rfl))
        try simp only [Act.put, List.setIfInBounds_toArray, List.set_cons_zero, List.set_cons_succ]
        refine wpAnyH_take (i := 7) (oi := { dst := some 81, op := Go.Op.load 78 (Go.Operand.tmp 12), type := 78, pos := "outright.go:49", after := #[{ on := 6, ground := Go.Ground.guard }], guard := some (6, false) }) (v := ?_) rfl (by kernel_rfl) (by kernel_rfl) (by kernel_rfl) (fun _ _ _ h => h) (Or.inl ⟨by rfl, ?_⟩) (by assumption) ?_
        rotate_left
        · (intro w hSw; (try dsimp only at hSw); (go_simp <;> with_reducible rfl))
        try simp only [Act.put, List.setIfInBounds_toArray, List.set_cons_zero, List.set_cons_succ]
        refine wpAnyH_take (i := 8) (oi := { dst := some 82, op := Go.Op.load 78 (Go.Operand.tmp 11), type := 78, pos := "outright.go:49", after := #[{ on := 6, ground := Go.Ground.guard }], guard := some (6, false) }) (v := ?_) rfl (by kernel_rfl) (by kernel_rfl) (by kernel_rfl) (fun _ _ _ h => h) (Or.inl ⟨by rfl, ?_⟩) (by assumption) ?_
        rotate_left
        · (intro w hSw; (try dsimp only at hSw); (go_simp <;> with_reducible rfl))
        try simp only [Act.put, List.setIfInBounds_toArray, List.set_cons_zero, List.set_cons_succ]
        refine wpAnyH_take (i := 9) (oi := { dst := some 83, op := Go.Op.binOp Go.BinOp.neq 78 (Go.Operand.tmp 81) (Go.Operand.tmp 82) 78, type := 4, pos := "outright.go:49", after := #[{ on := 7, ground := Go.Ground.data }, { on := 8, ground := Go.Ground.data }, { on := 6, ground := Go.Ground.guard }], guard := some (6, false) }) (v := ?_) rfl (by kernel_rfl) (by kernel_rfl) (by kernel_rfl) (fun _ _ _ h => h) (Or.inl ⟨by rfl, ?_⟩) (by assumption) ?_
        rotate_left
        · (intro w hSw; refine neq_op (x := .tmp 81) (y := .tmp 82) (p := (xi : Int)) (q := (xs : Int)) (r := 0) ?_ ?_ ?_ w <;> rfl)
        try simp only [Act.put, List.setIfInBounds_toArray, List.set_cons_zero, List.set_cons_succ]
        refine wpAnyH_take (i := 10) (oi := { dst := some 84, op := Go.Op.pick (Go.Operand.tmp 80) (Go.Operand.const (Go.Value.bool true)) (Go.Operand.tmp 83), type := 4, pos := "outright.go:49", after := #[{ on := 6, ground := Go.Ground.data }, { on := 9, ground := Go.Ground.data }], guard := none }) (v := ?_) rfl (by kernel_rfl) (by kernel_rfl) (by kernel_rfl) (fun _ _ _ h => h) (Or.inl ⟨by rfl, ?_⟩) (by assumption) ?_
        rotate_left
        · (intro w hSw; (try dsimp only at hSw); (go_simp <;> with_reducible rfl))
        try simp only [Act.put, List.setIfInBounds_toArray, List.set_cons_zero, List.set_cons_succ]
        refine wpAnyH_take (i := 11) (oi := { dst := some 85, op := Go.Op.move (Go.Operand.tmp 84), type := 4, pos := "outright.go:49", after := #[{ on := 10, ground := Go.Ground.data }, { on := 6, ground := Go.Ground.chain }], guard := none }) (v := ?_) rfl (by kernel_rfl) (by kernel_rfl) (by kernel_rfl) (fun _ _ _ h => h) (Or.inl ⟨by rfl, ?_⟩) (by assumption) ?_
        rotate_left
        · (intro w hSw; (try dsimp only at hSw); (go_simp <;> with_reducible rfl))
        try simp only [Act.put, List.setIfInBounds_toArray, List.set_cons_zero, List.set_cons_succ]
        refine wpAnyH_take (i := 12) (oi := { dst := some 86, op := Go.Op.load 78 (Go.Operand.tmp 14), type := 78, pos := "outright.go:49", after := #[{ on := 11, ground := Go.Ground.guard }], guard := some (11, false) }) (v := ?_) rfl (by kernel_rfl) (by kernel_rfl) (by kernel_rfl) (fun _ _ _ h => h) (Or.inl ⟨by rfl, ?_⟩) (by assumption) ?_
        rotate_left
        · (intro w hSw; (try dsimp only at hSw); (go_simp <;> with_reducible rfl))
        try simp only [Act.put, List.setIfInBounds_toArray, List.set_cons_zero, List.set_cons_succ]
        refine wpAnyH_take (i := 13) (oi := { dst := some 87, op := Go.Op.load 78 (Go.Operand.tmp 11), type := 78, pos := "outright.go:49", after := #[{ on := 11, ground := Go.Ground.guard }], guard := some (11, false) }) (v := ?_) rfl (by kernel_rfl) (by kernel_rfl) (by kernel_rfl) (fun _ _ _ h => h) (Or.inl ⟨by rfl, ?_⟩) (by assumption) ?_
        rotate_left
        · (intro w hSw; (try dsimp only at hSw); (go_simp <;> with_reducible rfl))
        try simp only [Act.put, List.setIfInBounds_toArray, List.set_cons_zero, List.set_cons_succ]
        refine wpAnyH_take (i := 14) (oi := { dst := some 88, op := Go.Op.binOp Go.BinOp.neq 78 (Go.Operand.tmp 86) (Go.Operand.tmp 87) 78, type := 4, pos := "outright.go:49", after := #[{ on := 12, ground := Go.Ground.data }, { on := 13, ground := Go.Ground.data }, { on := 11, ground := Go.Ground.guard }], guard := some (11, false) }) (v := ?_) rfl (by kernel_rfl) (by kernel_rfl) (by kernel_rfl) (fun _ _ _ h => h) (Or.inl ⟨by rfl, ?_⟩) (by assumption) ?_
        rotate_left
        · (intro w hSw; refine neq_op (x := .tmp 86) (y := .tmp 87) (p := (xi : Int)) (q := (xs : Int)) (r := 0) ?_ ?_ ?_ w <;> rfl)
        try simp only [Act.put, List.setIfInBounds_toArray, List.set_cons_zero, List.set_cons_succ]
        refine wpAnyH_take (i := 15) (oi := { dst := some 89, op := Go.Op.pick (Go.Operand.tmp 85) (Go.Operand.const (Go.Value.bool true)) (Go.Operand.tmp 88), type := 4, pos := "outright.go:49", after := #[{ on := 11, ground := Go.Ground.data }, { on := 14, ground := Go.Ground.data }], guard := none }) (v := ?_) rfl (by kernel_rfl) (by kernel_rfl) (by kernel_rfl) (fun _ _ _ h => h) (Or.inl ⟨by rfl, ?_⟩) (by assumption) ?_
        rotate_left
        · (intro w hSw; (try dsimp only at hSw); (go_simp <;> with_reducible rfl))
        try simp only [Act.put, List.setIfInBounds_toArray, List.set_cons_zero, List.set_cons_succ]
        refine wpAnyH_take (i := 16) (oi := { dst := some 90, op := Go.Op.move (Go.Operand.tmp 89), type := 4, pos := "outright.go:49", after := #[{ on := 15, ground := Go.Ground.data }, { on := 11, ground := Go.Ground.chain }], guard := none }) (v := ?_) rfl (by kernel_rfl) (by kernel_rfl) (by kernel_rfl) (fun _ _ _ h => h) (Or.inl ⟨by rfl, ?_⟩) (by assumption) ?_
        rotate_left
        · (intro w hSw; (try dsimp only at hSw); (go_simp <;> with_reducible rfl))
        try simp only [Act.put, List.setIfInBounds_toArray, List.set_cons_zero, List.set_cons_succ]
        refine wpAnyH_take (i := 17) (oi := { dst := some 91, op := Go.Op.fieldAddr 78 (Go.Operand.tmp 11) 0, type := 0, pos := "outright.go:49", after := #[{ on := 16, ground := Go.Ground.guard }], guard := some (16, false) }) (v := ?_) rfl (by kernel_rfl) (by kernel_rfl) (by kernel_rfl) (fun _ _ _ h => h) (Or.inl ⟨by rfl, ?_⟩) (by assumption) ?_
        rotate_left
        · (intro w hSw; (try dsimp only at hSw); (go_simp <;> with_reducible rfl))
        try simp only [Act.put, List.setIfInBounds_toArray, List.set_cons_zero, List.set_cons_succ]
        refine wpAnyH_take (i := 18) (oi := { dst := some 92, op := Go.Op.load 24 (Go.Operand.tmp 91), type := 24, pos := "outright.go:49", after := #[{ on := 17, ground := Go.Ground.data }, { on := 16, ground := Go.Ground.guard }], guard := some (16, false) }) (v := ?_) rfl (by kernel_rfl) (by kernel_rfl) (by kernel_rfl) (fun _ _ _ h => h) (Or.inl ⟨by rfl, ?_⟩) (by assumption) ?_
        rotate_left
        · (intro w hSw; (try dsimp only at hSw); (go_simp <;> with_reducible rfl))
        try simp only [Act.put, List.setIfInBounds_toArray, List.set_cons_zero, List.set_cons_succ]
        refine wpAnyH_take (i := 19) (oi := { dst := some 93, op := Go.Op.move (Go.Operand.tmp 7), type := 24, pos := "outright.go:49", after := #[{ on := 16, ground := Go.Ground.guard }], guard := some (16, false) }) (v := ?_) rfl (by kernel_rfl) (by kernel_rfl) (by kernel_rfl) (fun _ _ _ h => h) (Or.inl ⟨by rfl, ?_⟩) (by assumption) ?_
        rotate_left
        · (intro w hSw; (try dsimp only at hSw); (go_simp <;> with_reducible rfl))
        try simp only [Act.put, List.setIfInBounds_toArray, List.set_cons_zero, List.set_cons_succ]
        refine wpAnyH_take (i := 20) (oi := { dst := some 94, op := Go.Op.binOp Go.BinOp.leq 24 (Go.Operand.tmp 92) (Go.Operand.tmp 93) 24, type := 4, pos := "outright.go:49", after := #[{ on := 18, ground := Go.Ground.data }, { on := 19, ground := Go.Ground.data }, { on := 16, ground := Go.Ground.guard }], guard := some (16, false) }) (v := ?_) rfl (by kernel_rfl) (by kernel_rfl) (by kernel_rfl) (fun _ _ _ h => h) (Or.inl ⟨by rfl, ?_⟩) (by assumption) ?_
        rotate_left
        · (intro w hSw; (try dsimp only at hSw); (go_simp <;> with_reducible rfl))
        try simp only [Act.put, List.setIfInBounds_toArray, List.set_cons_zero, List.set_cons_succ]
        refine wpAnyH_take (i := 21) (oi := { dst := some 95, op := Go.Op.pick (Go.Operand.tmp 90) (Go.Operand.const (Go.Value.bool true)) (Go.Operand.tmp 94), type := 4, pos := "outright.go:49", after := #[{ on := 16, ground := Go.Ground.data }, { on := 20, ground := Go.Ground.data }], guard := none }) (v := ?_) rfl (by kernel_rfl) (by kernel_rfl) (by kernel_rfl) (fun _ _ _ h => h) (Or.inl ⟨by rfl, ?_⟩) (by assumption) ?_
        rotate_left
        · (intro w hSw; (try dsimp only at hSw); (go_simp <;> with_reducible rfl))
        try simp only [Act.put, List.setIfInBounds_toArray, List.set_cons_zero, List.set_cons_succ]
        refine wpAnyH_take (i := 22) (oi := { dst := some 96, op := Go.Op.move (Go.Operand.tmp 95), type := 4, pos := "outright.go:49", after := #[{ on := 21, ground := Go.Ground.data }, { on := 16, ground := Go.Ground.chain }], guard := none }) (v := ?_) rfl (by kernel_rfl) (by kernel_rfl) (by kernel_rfl) (fun _ _ _ h => h) (Or.inl ⟨by rfl, ?_⟩) (by assumption) ?_
        rotate_left
        · (intro w hSw; (try dsimp only at hSw); (go_simp <;> with_reducible rfl))
        try simp only [Act.put, List.setIfInBounds_toArray, List.set_cons_zero, List.set_cons_succ]
        refine wpAnyH_take (i := 23) (oi := { dst := some 97, op := Go.Op.fieldAddr 78 (Go.Operand.tmp 11) 0, type := 0, pos := "outright.go:49", after := #[{ on := 22, ground := Go.Ground.guard }], guard := some (22, false) }) (v := ?_) rfl (by kernel_rfl) (by kernel_rfl) (by kernel_rfl) (fun _ _ _ h => h) (Or.inl ⟨by rfl, ?_⟩) (by assumption) ?_
        rotate_left
        · (intro w hSw; (try dsimp only at hSw); (go_simp <;> with_reducible rfl))
        try simp only [Act.put, List.setIfInBounds_toArray, List.set_cons_zero, List.set_cons_succ]
        refine wpAnyH_take (i := 24) (oi := { dst := some 98, op := Go.Op.load 24 (Go.Operand.tmp 97), type := 24, pos := "outright.go:49", after := #[{ on := 23, ground := Go.Ground.data }, { on := 22, ground := Go.Ground.guard }], guard := some (22, false) }) (v := ?_) rfl (by kernel_rfl) (by kernel_rfl) (by kernel_rfl) (fun _ _ _ h => h) (Or.inl ⟨by rfl, ?_⟩) (by assumption) ?_
        rotate_left
        · (intro w hSw; (try dsimp only at hSw); (go_simp <;> with_reducible rfl))
        try simp only [Act.put, List.setIfInBounds_toArray, List.set_cons_zero, List.set_cons_succ]
        refine wpAnyH_take (i := 25) (oi := { dst := some 99, op := Go.Op.move (Go.Operand.tmp 3), type := 31, pos := "outright.go:49", after := #[{ on := 22, ground := Go.Ground.guard }], guard := some (22, false) }) (v := ?_) rfl (by kernel_rfl) (by kernel_rfl) (by kernel_rfl) (fun _ _ _ h => h) (Or.inl ⟨by rfl, ?_⟩) (by assumption) ?_
        rotate_left
        · (intro w hSw; (try dsimp only at hSw); (go_simp <;> with_reducible rfl))
        try simp only [Act.put, List.setIfInBounds_toArray, List.set_cons_zero, List.set_cons_succ]
        refine wpAnyH_ready (rs := [26]) (by kernel_rfl) (by simp) ?_
        refine AllReadyH.cons (o := { dst := some 100, op := Go.Op.call { callee := Go.Callee.value (Go.Operand.func 31), args := #[Go.Operand.tmp 99], argTypes := #[31] }, type := 24, pos := "outright.go:49", after := #[{ on := 25, ground := Go.Ground.data }, { on := 22, ground := Go.Ground.chain }, { on := 22, ground := Go.Ground.guard }], guard := some (22, false) }) rfl (fun K hK => ?_) ?_
        rotate_left
        · exact AllReadyH.nil
        go_simp
        refine (HX.out _ _ HD5.out).mono ?_
        rintro e w6 ⟨rfl, rfl⟩
        go_wp2_with fail
        refine hK.out _ _ ?_ (fun hHeld => ?_)
        · ((try dsimp only); first | exact hKD | assumption)
        clear hK K
        try simp only [Act.put, List.setIfInBounds_toArray, List.set_cons_zero, List.set_cons_succ]
        refine wpAnyH_take (i := 27) (oi := { dst := some 101, op := Go.Op.binOp Go.BinOp.geq 24 (Go.Operand.tmp 98) (Go.Operand.tmp 100) 24, type := 4, pos := "outright.go:49", after := #[{ on := 24, ground := Go.Ground.data }, { on := 26, ground := Go.Ground.data }, { on := 22, ground := Go.Ground.guard }], guard := some (22, false) }) (v := ?_) rfl (by kernel_rfl) (by kernel_rfl) (by kernel_rfl) (fun _ _ _ h => h) (Or.inl ⟨by rfl, ?_⟩) (by assumption) ?_
        rotate_left
        · (intro w hSw; refine geq_op (t := 24) (k := .u32) (x := .tmp 98) (y := .tmp 100) (p := (xi : Int)) (q := (S.n : Int)) ?_ ?_ ?_ g1 w <;> rfl)
        try simp only [Act.put, List.setIfInBounds_toArray, List.set_cons_zero, List.set_cons_succ]
        refine wpAnyH_take (i := 28) (oi := { dst := some 102, op := Go.Op.pick (Go.Operand.tmp 96) (Go.Operand.const (Go.Value.bool true)) (Go.Operand.tmp 101), type := 4, pos := "outright.go:49", after := #[{ on := 22, ground := Go.Ground.data }, { on := 27, ground := Go.Ground.data }], guard := none }) (v := ?_) rfl (by kernel_rfl) (by kernel_rfl) (by kernel_rfl) (fun _ _ _ h => h) (Or.inl ⟨by rfl, ?_⟩) (by assumption) ?_
        rotate_left
        · (intro w hSw; (try dsimp only at hSw); (go_simp <;> with_reducible rfl))
        try simp only [Act.put, List.setIfInBounds_toArray, List.set_cons_zero, List.set_cons_succ]
        refine wpAnyH_take (i := 29) (oi := { dst := some 103, op := Go.Op.move (Go.Operand.tmp 102), type := 4, pos := "outright.go:49", after := #[{ on := 28, ground := Go.Ground.data }, { on := 26, ground := Go.Ground.chain }], guard := none }) (v := ?_) rfl (by kernel_rfl) (by kernel_rfl) (by kernel_rfl) (fun _ _ _ h => h) (Or.inl ⟨by rfl, ?_⟩) (by assumption) ?_
        rotate_left
        · (intro w hSw; (try dsimp only at hSw); (go_simp <;> with_reducible rfl))
        try simp only [Act.put, List.setIfInBounds_toArray, List.set_cons_zero, List.set_cons_succ]
        refine wpAnyH_take (i := 30) (oi := { dst := some 104, op := Go.Op.fieldAddr 78 (Go.Operand.tmp 11) 1, type := 0, pos := "outright.go:49", after := #[{ on := 29, ground := Go.Ground.guard }], guard := some (29, false) }) (v := ?_) rfl (by kernel_rfl) (by kernel_rfl) (by kernel_rfl) (fun _ _ _ h => h) (Or.inl ⟨by rfl, ?_⟩) (by assumption) ?_
        rotate_left
        · (intro w hSw; (try dsimp only at hSw); (go_simp <;> with_reducible rfl))
        try simp only [Act.put, List.setIfInBounds_toArray, List.set_cons_zero, List.set_cons_succ]
        refine wpAnyH_take (i := 31) (oi := { dst := some 105, op := Go.Op.load 3 (Go.Operand.tmp 104), type := 3, pos := "outright.go:49", after := #[{ on := 30, ground := Go.Ground.data }, { on := 29, ground := Go.Ground.guard }], guard := some (29, false) }) (v := ?_) rfl (by kernel_rfl) (by kernel_rfl) (by kernel_rfl) (fun _ _ _ h => h) (Or.inl ⟨by rfl, ?_⟩) (by assumption) ?_
        rotate_left
        · (intro w hSw; (try dsimp only at hSw); (go_simp <;> with_reducible rfl))
        try simp only [Act.put, List.setIfInBounds_toArray, List.set_cons_zero, List.set_cons_succ]
        refine wpAnyH_take (i := 32) (oi := { dst := some 106, op := Go.Op.binOp Go.BinOp.lss 3 (Go.Operand.tmp 105) (Go.Operand.const (Go.Value.int Go.IntKind.i64 0)) 3, type := 4, pos := "outright.go:49", after := #[{ on := 31, ground := Go.Ground.data }, { on := 29, ground := Go.Ground.guard }], guard := some (29, false) }) (v := ?_) rfl (by kernel_rfl) (by kernel_rfl) (by kernel_rfl) (fun _ _ _ h => h) (Or.inl ⟨by rfl, ?_⟩) (by assumption) ?_
        rotate_left
        · (intro w hSw; (try dsimp only at hSw); (go_simp <;> with_reducible rfl))
        try simp only [Act.put, List.setIfInBounds_toArray, List.set_cons_zero, List.set_cons_succ]
        refine wpAnyH_take (i := 33) (oi := { dst := some 107, op := Go.Op.pick (Go.Operand.tmp 103) (Go.Operand.const (Go.Value.bool true)) (Go.Operand.tmp 106), type := 4, pos := "outright.go:49", after := #[{ on := 29, ground := Go.Ground.data }, { on := 32, ground := Go.Ground.data }], guard := none }) (v := ?_) rfl (by kernel_rfl) (by kernel_rfl) (by kernel_rfl) (fun _ _ _ h => h) (Or.inl ⟨by rfl, ?_⟩) (by assumption) ?_
        rotate_left
        · (intro w hSw; (try dsimp only at hSw); (go_simp <;> with_reducible rfl))
        try simp only [Act.put, List.setIfInBounds_toArray, List.set_cons_zero, List.set_cons_succ]
        refine wpAnyH_take (i := 34) (oi := { dst := some 108, op := Go.Op.move (Go.Operand.tmp 107), type := 4, pos := "outright.go:49", after := #[{ on := 33, ground := Go.Ground.data }, { on := 29, ground := Go.Ground.chain }], guard := none }) (v := ?_) rfl (by kernel_rfl) (by kernel_rfl) (by kernel_rfl) (fun _ _ _ h => h) (Or.inl ⟨by rfl, ?_⟩) (by assumption) ?_
        rotate_left
        · (intro w hSw; (try dsimp only at hSw); (go_simp <;> with_reducible rfl))
        try simp only [Act.put, List.setIfInBounds_toArray, List.set_cons_zero, List.set_cons_succ]
        refine wpAnyH_take (i := 35) (oi := { dst := some 109, op := Go.Op.fieldAddr 78 (Go.Operand.tmp 11) 1, type := 0, pos := "outright.go:49", after := #[{ on := 34, ground := Go.Ground.guard }], guard := some (34, false) }) (v := ?_) rfl (by kernel_rfl) (by kernel_rfl) (by kernel_rfl) (fun _ _ _ h => h) (Or.inl ⟨by rfl, ?_⟩) (by assumption) ?_
        rotate_left
        · (intro w hSw; (try dsimp only at hSw); (go_simp <;> with_reducible rfl))
        try simp only [Act.put, List.setIfInBounds_toArray, List.set_cons_zero, List.set_cons_succ]
        refine wpAnyH_take (i := 36) (oi := { dst := some 110, op := Go.Op.load 3 (Go.Operand.tmp 109), type := 3, pos := "outright.go:49", after := #[{ on := 35, ground := Go.Ground.data }, { on := 34, ground := Go.Ground.guard }], guard := some (34, false) }) (v := ?_) rfl (by kernel_rfl) (by kernel_rfl) (by kernel_rfl) (fun _ _ _ h => h) (Or.inl ⟨by rfl, ?_⟩) (by assumption) ?_
        rotate_left
        · (intro w hSw; (try dsimp only at hSw); (go_simp <;> with_reducible rfl))
        try simp only [Act.put, List.setIfInBounds_toArray, List.set_cons_zero, List.set_cons_succ]
        refine wpAnyH_take (i := 37) (oi := { dst := some 111, op := Go.Op.binOp Go.BinOp.geq 3 (Go.Operand.tmp 110) (Go.Operand.const (Go.Value.int Go.IntKind.i64 12)) 3, type := 4, pos := "outright.go:49", after := #[{ on := 36, ground := Go.Ground.data }, { on := 34, ground := Go.Ground.guard }], guard := some (34, false) }) (v := ?_) rfl (by kernel_rfl) (by kernel_rfl) (by kernel_rfl) (fun _ _ _ h => h) (Or.inl ⟨by rfl, ?_⟩) (by assumption) ?_
        rotate_left
        · (intro w hSw; refine geq_op (t := 3) (k := .i64) (x := .tmp 110) (y := .const (.int .i64 12)) (p := (xs : Int)) (q := 12) ?_ ?_ ?_ g2 w <;> rfl)
        try simp only [Act.put, List.setIfInBounds_toArray, List.set_cons_zero, List.set_cons_succ]
        refine wpAnyH_take (i := 38) (oi := { dst := some 112, op := Go.Op.pick (Go.Operand.tmp 108) (Go.Operand.const (Go.Value.bool true)) (Go.Operand.tmp 111), type := 4, pos := "outright.go:49", after := #[{ on := 34, ground := Go.Ground.data }, { on := 37, ground := Go.Ground.data }], guard := none }) (v := ?_) rfl (by kernel_rfl) (by kernel_rfl) (by kernel_rfl) (fun _ _ _ h => h) (Or.inl ⟨by rfl, ?_⟩) (by assumption) ?_
        rotate_left
        · (intro w hSw; (try dsimp only at hSw); (go_simp <;> with_reducible rfl))
        try simp only [Act.put, List.setIfInBounds_toArray, List.set_cons_zero, List.set_cons_succ]
        refine wpAnyH_take (i := 39) (oi := { dst := some 113, op := Go.Op.move (Go.Operand.tmp 112), type := 4, pos := "outright.go:49", after := #[{ on := 38, ground := Go.Ground.data }, { on := 34, ground := Go.Ground.chain }], guard := none }) (v := ?_) rfl (by kernel_rfl) (by kernel_rfl) (by kernel_rfl) (fun _ _ _ h => h) (Or.inl ⟨by rfl, ?_⟩) (by assumption) ?_
        rotate_left
        · (intro w hSw; (try dsimp only at hSw); (go_simp <;> with_reducible rfl))
        try simp only [Act.put, List.setIfInBounds_toArray, List.set_cons_zero, List.set_cons_succ]
        refine wpAnyH_take (i := 40) (oi := { dst := some 114, op := Go.Op.fieldAddr 78 (Go.Operand.tmp 11) 2, type := 0, pos := "outright.go:49", after := #[{ on := 39, ground := Go.Ground.guard }], guard := some (39, false) }) (v := ?_) rfl (by kernel_rfl) (by kernel_rfl) (by kernel_rfl) (fun _ _ _ h => h) (Or.inl ⟨by rfl, ?_⟩) (by assumption) ?_
        rotate_left
        · (intro w hSw; (try dsimp only at hSw); (go_simp <;> with_reducible rfl))
        try simp only [Act.put, List.setIfInBounds_toArray, List.set_cons_zero, List.set_cons_succ]
        refine wpAnyH_take (i := 41) (oi := { dst := some 115, op := Go.Op.load 2 (Go.Operand.tmp 114), type := 2, pos := "outright.go:49", after := #[{ on := 40, ground := Go.Ground.data }, { on := 39, ground := Go.Ground.guard }], guard := some (39, false) }) (v := ?_) rfl (by kernel_rfl) (by kernel_rfl) (by kernel_rfl) (fun _ _ _ h => h) (Or.inl ⟨by rfl, ?_⟩) (by assumption) ?_
        rotate_left
        · (intro w hSw; (try dsimp only at hSw); (go_simp <;> with_reducible rfl))
        try simp only [Act.put, List.setIfInBounds_toArray, List.set_cons_zero, List.set_cons_succ]
        refine wpAnyH_take (i := 42) (oi := { dst := some 116, op := Go.Op.binOp Go.BinOp.neq 2 (Go.Operand.tmp 115) (Go.Operand.const (Go.Value.int Go.IntKind.i64 0)) 2, type := 4, pos := "outright.go:49", after := #[{ on := 41, ground := Go.Ground.data }, { on := 39, ground := Go.Ground.guard }], guard := some (39, false) }) (v := ?_) rfl (by kernel_rfl) (by kernel_rfl) (by kernel_rfl) (fun _ _ _ h => h) (Or.inl ⟨by rfl, ?_⟩) (by assumption) ?_
        rotate_left
        · (intro w hSw; (try dsimp only at hSw); (go_simp <;> with_reducible rfl))
        try simp only [Act.put, List.setIfInBounds_toArray, List.set_cons_zero, List.set_cons_succ]
        refine wpAnyH_take (i := 43) (oi := { dst := some 117, op := Go.Op.move (Go.Operand.tmp 116), type := 4, pos := "outright.go:49", after := #[{ on := 42, ground := Go.Ground.data }, { on := 39, ground := Go.Ground.chain }, { on := 39, ground := Go.Ground.guard }], guard := some (39, false) }) (v := ?_) rfl (by kernel_rfl) (by kernel_rfl) (by kernel_rfl) (fun _ _ _ h => h) (Or.inl ⟨by rfl, ?_⟩) (by assumption) ?_
        rotate_left
        · (intro w hSw; (try dsimp only at hSw); (go_simp <;> with_reducible rfl))
        try simp only [Act.put, List.setIfInBounds_toArray, List.set_cons_zero, List.set_cons_succ]
        refine wpAnyH_take (i := 44) (oi := { dst := some 118, op := Go.Op.fieldAddr 78 (Go.Operand.tmp 11) 2, type := 0, pos := "outright.go:49", after := #[{ on := 43, ground := Go.Ground.guard }], guard := some (43, true) }) (v := undef) rfl (by kernel_rfl) (by kernel_rfl) (by kernel_rfl) (fun _ _ _ h => h) (Or.inr ⟨by rfl, rfl⟩) (by assumption) ?_
        try simp only [Act.put, List.setIfInBounds_toArray, List.set_cons_zero, List.set_cons_succ]
        refine wpAnyH_take (i := 45) (oi := { dst := some 119, op := Go.Op.load 2 (Go.Operand.tmp 118), type := 2, pos := "outright.go:49", after := #[{ on := 44, ground := Go.Ground.data }, { on := 43, ground := Go.Ground.guard }], guard := some (43, true) }) (v := undef) rfl (by kernel_rfl) (by kernel_rfl) (by kernel_rfl) (fun _ _ _ h => h) (Or.inr ⟨by rfl, rfl⟩) (by assumption) ?_
        try simp only [Act.put, List.setIfInBounds_toArray, List.set_cons_zero, List.set_cons_succ]
        refine wpAnyH_take (i := 46) (oi := { dst := some 120, op := Go.Op.move (Go.Operand.tmp 3), type := 31, pos := "outright.go:49", after := #[{ on := 43, ground := Go.Ground.guard }], guard := some (43, true) }) (v := undef) rfl (by kernel_rfl) (by kernel_rfl) (by kernel_rfl) (fun _ _ _ h => h) (Or.inr ⟨by rfl, rfl⟩) (by assumption) ?_
        try simp only [Act.put, List.setIfInBounds_toArray, List.set_cons_zero, List.set_cons_succ]
        refine wpAnyH_take (i := 47) (oi := { dst := some 121, op := Go.Op.call { callee := Go.Callee.value (Go.Operand.func 32), args := #[Go.Operand.tmp 120], argTypes := #[31] }, type := 2, pos := "outright.go:49", after := #[{ on := 46, ground := Go.Ground.data }, { on := 43, ground := Go.Ground.chain }, { on := 43, ground := Go.Ground.guard }], guard := some (43, true) }) (v := undef) rfl (by kernel_rfl) (by kernel_rfl) (by kernel_rfl) (fun _ _ _ h => h) (Or.inr ⟨by rfl, rfl⟩) (by assumption) ?_
        try simp only [Act.put, List.setIfInBounds_toArray, List.set_cons_zero, List.set_cons_succ]
        refine wpAnyH_take (i := 48) (oi := { dst := some 122, op := Go.Op.binOp Go.BinOp.leq 2 (Go.Operand.tmp 119) (Go.Operand.tmp 121) 2, type := 4, pos := "outright.go:49", after := #[{ on := 45, ground := Go.Ground.data }, { on := 47, ground := Go.Ground.data }, { on := 43, ground := Go.Ground.guard }], guard := some (43, true) }) (v := undef) rfl (by kernel_rfl) (by kernel_rfl) (by kernel_rfl) (fun _ _ _ h => h) (Or.inr ⟨by rfl, rfl⟩) (by assumption) ?_
        try simp only [Act.put, List.setIfInBounds_toArray, List.set_cons_zero, List.set_cons_succ]
        refine wpAnyH_take (i := 49) (oi := { dst := some 123, op := Go.Op.pick (Go.Operand.tmp 117) (Go.Operand.tmp 122) (Go.Operand.const (Go.Value.bool false)), type := 4, pos := "outright.go:49", after := #[{ on := 43, ground := Go.Ground.data }, { on := 48, ground := Go.Ground.data }, { on := 39, ground := Go.Ground.guard }], guard := some (39, false) }) (v := ?_) rfl (by kernel_rfl) (by kernel_rfl) (by kernel_rfl) (fun _ _ _ h => h) (Or.inl ⟨by rfl, ?_⟩) (by assumption) ?_
        rotate_left
        · (intro w hSw; (try dsimp only at hSw); (go_simp <;> with_reducible rfl))
        try simp only [Act.put, List.setIfInBounds_toArray, List.set_cons_zero, List.set_cons_succ]
        refine wpAnyH_take (i := 50) (oi := { dst := some 124, op := Go.Op.pick (Go.Operand.tmp 113) (Go.Operand.const (Go.Value.bool true)) (Go.Operand.tmp 123), type := 4, pos := "outright.go:49", after := #[{ on := 39, ground := Go.Ground.data }, { on := 49, ground := Go.Ground.data }], guard := none }) (v := ?_) rfl (by kernel_rfl) (by kernel_rfl) (by kernel_rfl) (fun _ _ _ h => h) (Or.inl ⟨by rfl, ?_⟩) (by assumption) ?_
        rotate_left
        · (intro w hSw; (try dsimp only at hSw); (go_simp <;> with_reducible rfl))
        try simp only [Act.put, List.setIfInBounds_toArray, List.set_cons_zero, List.set_cons_succ]
        refine wpAnyH_done (by kernel_rfl) ?_ _
        have HPr : Hid (Pr (S.L.take j ++ [rd S.L j]) a) := HP.out.keep (.inl (by rw [HRd.out]))
        go_wp2
        go_roundg (gk - 1)
        case measure => omega
        case rel => exact ⟨j + 1, xi, a, by omega, by go_num, rfl, rfl, HLast.out, by rw [← take_rd HJ.out]; exact HPr.out, _, HF5.out⟩
      · have hz1 : (xu == 0) = false := by simpa using hz
        have hz2 : decide (xu = 0) = false := by simpa using hz
        have hz6 : (xu != 0) = true := by simpa using hz
        have hz3 : S.t < xu := by
          rcases hb4 with h | h
          · exact absurd h hz
          · exact h
        have hz4 : decide (xu ≤ S.t) = false := by rw [decide_eq_false_iff_not]; omega
        have hz5 : ¬ xu ≤ S.t := by omega
        refine wp_region_held_drew (S := (fun W => W.cell? ⟨X1, 0, none⟩ = some (.int .u32 (xi : Int)) ∧ W.cell? ⟨X1, 1, none⟩ = some (.int .i64 (xs : Int)) ∧ W.cell? ⟨X1, 2, none⟩ = some (.int .i64 xu) ∧ W.cell? ⟨X2, 0, none⟩ = some (.int .u32 (xi : Int)) ∧ W.cell? ⟨X2, 1, none⟩ = some (.int .i64 (xs : Int)) ∧ W.cell? ⟨X2, 2, none⟩ = some (.int .i64 xu) ∧ W.cell? ⟨X3, 0, none⟩ = some (.int .u32 (xi : Int)) ∧ W.cell? ⟨X3, 1, none⟩ = some (.int .i64 (xs : Int)) ∧ W.cell? ⟨X3, 2, none⟩ = some (.int .i64 xu))) (by kernel_rfl) ?_ (fun hHeld => ?_)
        · (exact hK)
        refine wpAnyH_take (i := 0) (oi := { dst := some 74, op := Go.Op.move (Go.Operand.tmp 13), type := 32, pos := "outright.go:49", after := #[], guard := none }) (v := ?_) rfl (by kernel_rfl) (by kernel_rfl) (by kernel_rfl) (fun _ _ _ h => h) (Or.inl ⟨by rfl, ?_⟩) (by assumption) ?_
        rotate_left
        · (intro w hSw; (try dsimp only at hSw); (go_simp <;> with_reducible rfl))
        try simp only [Act.put, List.setIfInBounds_toArray, List.set_cons_zero, List.set_cons_succ]
        refine wpAnyH_take (i := 1) (oi := { dst := some 75, op := Go.Op.binOp Go.BinOp.neq 32 (Go.Operand.tmp 74) (Go.Operand.const (Go.Value.int Go.IntKind.i64 0)) 32, type := 4, pos := "outright.go:49", after := #[{ on := 0, ground := Go.Ground.data }], guard := none }) (v := ?_) rfl (by kernel_rfl) (by kernel_rfl) (by kernel_rfl) (fun _ _ _ h => h) (Or.inl ⟨by rfl, ?_⟩) (by assumption) ?_
        rotate_left
        · (intro w hSw; (try dsimp only at hSw); (go_simp <;> with_reducible rfl))
        try simp only [Act.put, List.setIfInBounds_toArray, List.set_cons_zero, List.set_cons_succ]
        refine wpAnyH_take (i := 2) (oi := { dst := some 76, op := Go.Op.move (Go.Operand.tmp 75), type := 4, pos := "outright.go:49", after := #[{ on := 1, ground := Go.Ground.data }], guard := none }) (v := ?_) rfl (by kernel_rfl) (by kernel_rfl) (by kernel_rfl) (fun _ _ _ h => h) (Or.inl ⟨by rfl, ?_⟩) (by assumption) ?_
        rotate_left
        · (intro w hSw; (try dsimp only at hSw); (go_simp <;> with_reducible rfl))
        try simp only [Act.put, List.setIfInBounds_toArray, List.set_cons_zero, List.set_cons_succ]
        refine wpAnyH_take (i := 3) (oi := { dst := some 77, op := Go.Op.move (Go.Operand.tmp 15), type := 32, pos := "outright.go:49", after := #[{ on := 2, ground := Go.Ground.guard }], guard := some (2, false) }) (v := ?_) rfl (by kernel_rfl) (by kernel_rfl) (by kernel_rfl) (fun _ _ _ h => h) (Or.inl ⟨by rfl, ?_⟩) (by assumption) ?_
        rotate_left
        · (intro w hSw; (try dsimp only at hSw); (go_simp <;> with_reducible rfl))
        try simp only [Act.put, List.setIfInBounds_toArray, List.set_cons_zero, List.set_cons_succ]
        refine wpAnyH_take (i := 4) (oi := { dst := some 78, op := Go.Op.binOp Go.BinOp.neq 32 (Go.Operand.tmp 77) (Go.Operand.const (Go.Value.int Go.IntKind.i64 0)) 32, type := 4, pos := "outright.go:49", after := #[{ on := 3, ground := Go.Ground.data }, { on := 2, ground := Go.Ground.guard }], guard := some (2, false) }) (v := ?_) rfl (by kernel_rfl) (by kernel_rfl) (by kernel_rfl) (fun _ _ _ h => h) (Or.inl ⟨by rfl, ?_⟩) (by assumption) ?_
        rotate_left
        · (intro w hSw; (try dsimp only at hSw); (go_simp <;> with_reducible rfl))
        try simp only [Act.put, List.setIfInBounds_toArray, List.set_cons_zero, List.set_cons_succ]
        refine wpAnyH_take (i := 5) (oi := { dst := some 79, op := Go.Op.pick (Go.Operand.tmp 76) (Go.Operand.const (Go.Value.bool true)) (Go.Operand.tmp 78), type := 4, pos := "outright.go:49", after := #[{ on := 2, ground := Go.Ground.data }, { on := 4, ground := Go.Ground.data }], guard := none }) (v := ?_) rfl (by kernel_rfl) (by kernel_rfl) (by kernel_rfl) (fun _ _ _ h => h) (Or.inl ⟨by rfl, ?_⟩) (by assumption) ?_
        rotate_left
        · (intro w hSw; (try dsimp only at hSw); (go_simp <;> with_reducible rfl))
        try simp only [Act.put, List.setIfInBounds_toArray, List.set_cons_zero, List.set_cons_succ]
        refine wpAnyH_take (i := 6) (oi := { dst := some 80, op := Go.Op.move (Go.Operand.tmp 79), type := 4, pos := "outright.go:49", after := #[{ on := 5, ground := Go.Ground.data }, { on := 2, ground := Go.Ground.chain }], guard := none }) (v := ?_) rfl (by kernel_rfl) (by kernel_rfl) (by kernel_rfl) (fun _ _ _ h => h) (Or.inl ⟨by rfl, ?_⟩) (by assumption) ?_
        rotate_left
        · (intro w hSw; (try dsimp only at hSw); (go_simp <;> with_reducible rfl))
        try simp only [Act.put, List.setIfInBounds_toArray, List.set_cons_zero, List.set_cons_succ]
        refine wpAnyH_take (i := 7) (oi := { dst := some 81, op := Go.Op.load 78 (Go.Operand.tmp 12), type := 78, pos := "outright.go:49", after := #[{ on := 6, ground := Go.Ground.guard }], guard := some (6, false) }) (v := ?_) rfl (by kernel_rfl) (by kernel_rfl) (by kernel_rfl) (fun _ _ _ h => h) (Or.inl ⟨by rfl, ?_⟩) (by assumption) ?_
        rotate_left
        · (intro w hSw; (try dsimp only at hSw); (go_simp <;> with_reducible rfl))
        try simp only [Act.put, List.setIfInBounds_toArray, List.set_cons_zero, List.set_cons_succ]
        refine wpAnyH_take (i := 8) (oi := { dst := some 82, op := Go.Op.load 78 (Go.Operand.tmp 11), type := 78, pos := "outright.go:49", after := #[{ on := 6, ground := Go.Ground.guard }], guard := some (6, false) }) (v := ?_) rfl (by kernel_rfl) (by kernel_rfl) (by kernel_rfl) (fun _ _ _ h => h) (Or.inl ⟨by rfl, ?_⟩) (by assumption) ?_
        rotate_left
        · (intro w hSw; (try dsimp only at hSw); (go_simp <;> with_reducible rfl))
        try simp only [Act.put, List.setIfInBounds_toArray, List.set_cons_zero, List.set_cons_succ]
        refine wpAnyH_take (i := 9) (oi := { dst := some 83, op := Go.Op.binOp Go.BinOp.neq 78 (Go.Operand.tmp 81) (Go.Operand.tmp 82) 78, type := 4, pos := "outright.go:49", after := #[{ on := 7, ground := Go.Ground.data }, { on := 8, ground := Go.Ground.data }, { on := 6, ground := Go.Ground.guard }], guard := some (6, false) }) (v := ?_) rfl (by kernel_rfl) (by kernel_rfl) (by kernel_rfl) (fun _ _ _ h => h) (Or.inl ⟨by rfl, ?_⟩) (by assumption) ?_
        rotate_left
        · (intro w hSw; refine neq_op (x := .tmp 81) (y := .tmp 82) (p := (xi : Int)) (q := (xs : Int)) (r := xu) ?_ ?_ ?_ w <;> rfl)
        try simp only [Act.put, List.setIfInBounds_toArray, List.set_cons_zero, List.set_cons_succ]
        refine wpAnyH_take (i := 10) (oi := { dst := some 84, op := Go.Op.pick (Go.Operand.tmp 80) (Go.Operand.const (Go.Value.bool true)) (Go.Operand.tmp 83), type := 4, pos := "outright.go:49", after := #[{ on := 6, ground := Go.Ground.data }, { on := 9, ground := Go.Ground.data }], guard := none }) (v := ?_) rfl (by kernel_rfl) (by kernel_rfl) (by kernel_rfl) (fun _ _ _ h => h) (Or.inl ⟨by rfl, ?_⟩) (by assumption) ?_
        rotate_left
        · (intro w hSw; (try dsimp only at hSw); (go_simp <;> with_reducible rfl))
        try simp only [Act.put, List.setIfInBounds_toArray, List.set_cons_zero, List.set_cons_succ]
        refine wpAnyH_take (i := 11) (oi := { dst := some 85, op := Go.Op.move (Go.Operand.tmp 84), type := 4, pos := "outright.go:49", after := #[{ on := 10, ground := Go.Ground.data }, { on := 6, ground := Go.Ground.chain }], guard := none }) (v := ?_) rfl (by kernel_rfl) (by kernel_rfl) (by kernel_rfl) (fun _ _ _ h => h) (Or.inl ⟨by rfl, ?_⟩) (by assumption) ?_
        rotate_left
        · (intro w hSw; (try dsimp only at hSw); (go_simp <;> with_reducible rfl))
        try simp only [Act.put, List.setIfInBounds_toArray, List.set_cons_zero, List.set_cons_succ]
        refine wpAnyH_take (i := 12) (oi := { dst := some 86, op := Go.Op.load 78 (Go.Operand.tmp 14), type := 78, pos := "outright.go:49", after := #[{ on := 11, ground := Go.Ground.guard }], guard := some (11, false) }) (v := ?_) rfl (by kernel_rfl) (by kernel_rfl) (by kernel_rfl) (fun _ _ _ h => h) (Or.inl ⟨by rfl, ?_⟩) (by assumption) ?_
        rotate_left
        · (intro w hSw; (try dsimp only at hSw); (go_simp <;> with_reducible rfl))
        try simp only [Act.put, List.setIfInBounds_toArray, List.set_cons_zero, List.set_cons_succ]
        refine wpAnyH_take (i := 13) (oi := { dst := some 87, op := Go.Op.load 78 (Go.Operand.tmp 11), type := 78, pos := "outright.go:49", after := #[{ on := 11, ground := Go.Ground.guard }], guard := some (11, false) }) (v := ?_) rfl (by kernel_rfl) (by kernel_rfl) (by kernel_rfl) (fun _ _ _ h => h) (Or.inl ⟨by rfl, ?_⟩) (by assumption) ?_
        rotate_left
        · (intro w hSw; (try dsimp only at hSw); (go_simp <;> with_reducible rfl))
        try simp only [Act.put, List.setIfInBounds_toArray, List.set_cons_zero, List.set_cons_succ]
        refine wpAnyH_take (i := 14) (oi := { dst := some 88, op := Go.Op.binOp Go.BinOp.neq 78 (Go.Operand.tmp 86) (Go.Operand.tmp 87) 78, type := 4, pos := "outright.go:49", after := #[{ on := 12, ground := Go.Ground.data }, { on := 13, ground := Go.Ground.data }, { on := 11, ground := Go.Ground.guard }], guard := some (11, false) }) (v := ?_) rfl (by kernel_rfl) (by kernel_rfl) (by kernel_rfl) (fun _ _ _ h => h) (Or.inl ⟨by rfl, ?_⟩) (by assumption) ?_
        rotate_left
        · (intro w hSw; refine neq_op (x := .tmp 86) (y := .tmp 87) (p := (xi : Int)) (q := (xs : Int)) (r := xu) ?_ ?_ ?_ w <;> rfl)
        try simp only [Act.put, List.setIfInBounds_toArray, List.set_cons_zero, List.set_cons_succ]
        refine wpAnyH_take (i := 15) (oi := { dst := some 89, op := Go.Op.pick (Go.Operand.tmp 85) (Go.Operand.const (Go.Value.bool true)) (Go.Operand.tmp 88), type := 4, pos := "outright.go:49", after := #[{ on := 11, ground := Go.Ground.data }, { on := 14, ground := Go.Ground.data }], guard := none }) (v := ?_) rfl (by kernel_rfl) (by kernel_rfl) (by kernel_rfl) (fun _ _ _ h => h) (Or.inl ⟨by rfl, ?_⟩) (by assumption) ?_
        rotate_left
        · (intro w hSw; (try dsimp only at hSw); (go_simp <;> with_reducible rfl))
        try simp only [Act.put, List.setIfInBounds_toArray, List.set_cons_zero, List.set_cons_succ]
        refine wpAnyH_take (i := 16) (oi := { dst := some 90, op := Go.Op.move (Go.Operand.tmp 89), type := 4, pos := "outright.go:49", after := #[{ on := 15, ground := Go.Ground.data }, { on := 11, ground := Go.Ground.chain }], guard := none }) (v := ?_) rfl (by kernel_rfl) (by kernel_rfl) (by kernel_rfl) (fun _ _ _ h => h) (Or.inl ⟨by rfl, ?_⟩) (by assumption) ?_
        rotate_left
        · (intro w hSw; (try dsimp only at hSw); (go_simp <;> with_reducible rfl))
        try simp only [Act.put, List.setIfInBounds_toArray, List.set_cons_zero, List.set_cons_succ]
        refine wpAnyH_take (i := 17) (oi := { dst := some 91, op := Go.Op.fieldAddr 78 (Go.Operand.tmp 11) 0, type := 0, pos := "outright.go:49", after := #[{ on := 16, ground := Go.Ground.guard }], guard := some (16, false) }) (v := ?_) rfl (by kernel_rfl) (by kernel_rfl) (by kernel_rfl) (fun _ _ _ h => h) (Or.inl ⟨by rfl, ?_⟩) (by assumption) ?_
        rotate_left
        · (intro w hSw; (try dsimp only at hSw); (go_simp <;> with_reducible rfl))
        try simp only [Act.put, List.setIfInBounds_toArray, List.set_cons_zero, List.set_cons_succ]
        refine wpAnyH_take (i := 18) (oi := { dst := some 92, op := Go.Op.load 24 (Go.Operand.tmp 91), type := 24, pos := "outright.go:49", after := #[{ on := 17, ground := Go.Ground.data }, { on := 16, ground := Go.Ground.guard }], guard := some (16, false) }) (v := ?_) rfl (by kernel_rfl) (by kernel_rfl) (by kernel_rfl) (fun _ _ _ h => h) (Or.inl ⟨by rfl, ?_⟩) (by assumption) ?_
        rotate_left
        · (intro w hSw; (try dsimp only at hSw); (go_simp <;> with_reducible rfl))
        try simp only [Act.put, List.setIfInBounds_toArray, List.set_cons_zero, List.set_cons_succ]
        refine wpAnyH_take (i := 19) (oi := { dst := some 93, op := Go.Op.move (Go.Operand.tmp 7), type := 24, pos := "outright.go:49", after := #[{ on := 16, ground := Go.Ground.guard }], guard := some (16, false) }) (v := ?_) rfl (by kernel_rfl) (by kernel_rfl) (by kernel_rfl) (fun _ _ _ h => h) (Or.inl ⟨by rfl, ?_⟩) (by assumption) ?_
        rotate_left
        · (intro w hSw; (try dsimp only at hSw); (go_simp <;> with_reducible rfl))
        try simp only [Act.put, List.setIfInBounds_toArray, List.set_cons_zero, List.set_cons_succ]
        refine wpAnyH_take (i := 20) (oi := { dst := some 94, op := Go.Op.binOp Go.BinOp.leq 24 (Go.Operand.tmp 92) (Go.Operand.tmp 93) 24, type := 4, pos := "outright.go:49", after := #[{ on := 18, ground := Go.Ground.data }, { on := 19, ground := Go.Ground.data }, { on := 16, ground := Go.Ground.guard }], guard := some (16, false) }) (v := ?_) rfl (by kernel_rfl) (by kernel_rfl) (by kernel_rfl) (fun _ _ _ h => h) (Or.inl ⟨by rfl, ?_⟩) (by assumption) ?_
        rotate_left
        · (intro w hSw; (try dsimp only at hSw); (go_simp <;> with_reducible rfl))
        try simp only [Act.put, List.setIfInBounds_toArray, List.set_cons_zero, List.set_cons_succ]
        refine wpAnyH_take (i := 21) (oi := { dst := some 95, op := Go.Op.pick (Go.Operand.tmp 90) (Go.Operand.const (Go.Value.bool true)) (Go.Operand.tmp 94), type := 4, pos := "outright.go:49", after := #[{ on := 16, ground := Go.Ground.data }, { on := 20, ground := Go.Ground.data }], guard := none }) (v := ?_) rfl (by kernel_rfl) (by kernel_rfl) (by kernel_rfl) (fun _ _ _ h => h) (Or.inl ⟨by rfl, ?_⟩) (by assumption) ?_
        rotate_left
        · (intro w hSw; (try dsimp only at hSw); (go_simp <;> with_reducible rfl))
        try simp only [Act.put, List.setIfInBounds_toArray, List.set_cons_zero, List.set_cons_succ]
        refine wpAnyH_take (i := 22) (oi := { dst := some 96, op := Go.Op.move (Go.Operand.tmp 95), type := 4, pos := "outright.go:49", after := #[{ on := 21, ground := Go.Ground.data }, { on := 16, ground := Go.Ground.chain }], guard := none }) (v := ?_) rfl (by kernel_rfl) (by kernel_rfl) (by kernel_rfl) (fun _ _ _ h => h) (Or.inl ⟨by rfl, ?_⟩) (by assumption) ?_
        rotate_left
        · (intro w hSw; (try dsimp only at hSw); (go_simp <;> with_reducible rfl))
        try simp only [Act.put, List.setIfInBounds_toArray, List.set_cons_zero, List.set_cons_succ]
        refine wpAnyH_take (i := 23) (oi := { dst := some 97, op := Go.Op.fieldAddr 78 (Go.Operand.tmp 11) 0, type := 0, pos := "outright.go:49", after := #[{ on := 22, ground := Go.Ground.guard }], guard := some (22, false) }) (v := ?_) rfl (by kernel_rfl) (by kernel_rfl) (by kernel_rfl) (fun _ _ _ h => h) (Or.inl ⟨by rfl, ?_⟩) (by assumption) ?_
        rotate_left
        · (intro w hSw; (try dsimp only at hSw); (go_simp <;> with_reducible rfl))
        try simp only [Act.put, List.setIfInBounds_toArray, List.set_cons_zero, List.set_cons_succ]
        refine wpAnyH_take (i := 24) (oi := { dst := some 98, op := Go.Op.load 24 (Go.Operand.tmp 97), type := 24, pos := "outright.go:49", after := #[{ on := 23, ground := Go.Ground.data }, { on := 22, ground := Go.Ground.guard }], guard := some (22, false) }) (v := ?_) rfl (by kernel_rfl) (by kernel_rfl) (by kernel_rfl) (fun _ _ _ h => h) (Or.inl ⟨by rfl, ?_⟩) (by assumption) ?_
        rotate_left
        · (intro w hSw; (try dsimp only at hSw); (go_simp <;> with_reducible rfl))
        try simp only [Act.put, List.setIfInBounds_toArray, List.set_cons_zero, List.set_cons_succ]
        refine wpAnyH_take (i := 25) (oi := { dst := some 99, op := Go.Op.move (Go.Operand.tmp 3), type := 31, pos := "outright.go:49", after := #[{ on := 22, ground := Go.Ground.guard }], guard := some (22, false) }) (v := ?_) rfl (by kernel_rfl) (by kernel_rfl) (by kernel_rfl) (fun _ _ _ h => h) (Or.inl ⟨by rfl, ?_⟩) (by assumption) ?_
        rotate_left
        · (intro w hSw; (try dsimp only at hSw); (go_simp <;> with_reducible rfl))
        try simp only [Act.put, List.setIfInBounds_toArray, List.set_cons_zero, List.set_cons_succ]
        refine wpAnyH_ready (rs := [26]) (by kernel_rfl) (by simp) ?_
        refine AllReadyH.cons (o := { dst := some 100, op := Go.Op.call { callee := Go.Callee.value (Go.Operand.func 31), args := #[Go.Operand.tmp 99], argTypes := #[31] }, type := 24, pos := "outright.go:49", after := #[{ on := 25, ground := Go.Ground.data }, { on := 22, ground := Go.Ground.chain }, { on := 22, ground := Go.Ground.guard }], guard := some (22, false) }) rfl (fun K hK => ?_) ?_
        rotate_left
        · exact AllReadyH.nil
        go_simp
        refine (HX.out _ _ HD5.out).mono ?_
        rintro e w6 ⟨rfl, rfl⟩
        go_wp2_with fail
        refine hK.out _ _ ?_ (fun hHeld => ?_)
        · ((try dsimp only); first | exact hKD | assumption)
        clear hK K
        try simp only [Act.put, List.setIfInBounds_toArray, List.set_cons_zero, List.set_cons_succ]
        refine wpAnyH_take (i := 27) (oi := { dst := some 101, op := Go.Op.binOp Go.BinOp.geq 24 (Go.Operand.tmp 98) (Go.Operand.tmp 100) 24, type := 4, pos := "outright.go:49", after := #[{ on := 24, ground := Go.Ground.data }, { on := 26, ground := Go.Ground.data }, { on := 22, ground := Go.Ground.guard }], guard := some (22, false) }) (v := ?_) rfl (by kernel_rfl) (by kernel_rfl) (by kernel_rfl) (fun _ _ _ h => h) (Or.inl ⟨by rfl, ?_⟩) (by assumption) ?_
        rotate_left
        · (intro w hSw; refine geq_op (t := 24) (k := .u32) (x := .tmp 98) (y := .tmp 100) (p := (xi : Int)) (q := (S.n : Int)) ?_ ?_ ?_ g1 w <;> rfl)
        try simp only [Act.put, List.setIfInBounds_toArray, List.set_cons_zero, List.set_cons_succ]
        refine wpAnyH_take (i := 28) (oi := { dst := some 102, op := Go.Op.pick (Go.Operand.tmp 96) (Go.Operand.const (Go.Value.bool true)) (Go.Operand.tmp 101), type := 4, pos := "outright.go:49", after := #[{ on := 22, ground := Go.Ground.data }, { on := 27, ground := Go.Ground.data }], guard := none }) (v := ?_) rfl (by kernel_rfl) (by kernel_rfl) (by kernel_rfl) (fun _ _ _ h => h) (Or.inl ⟨by rfl, ?_⟩) (by assumption) ?_
        rotate_left
        · (intro w hSw; (try dsimp only at hSw); (go_simp <;> with_reducible rfl))
        try simp only [Act.put, List.setIfInBounds_toArray, List.set_cons_zero, List.set_cons_succ]
        refine wpAnyH_take (i := 29) (oi := { dst := some 103, op := Go.Op.move (Go.Operand.tmp 102), type := 4, pos := "outright.go:49", after := #[{ on := 28, ground := Go.Ground.data }, { on := 26, ground := Go.Ground.chain }], guard := none }) (v := ?_) rfl (by kernel_rfl) (by kernel_rfl) (by kernel_rfl) (fun _ _ _ h => h) (Or.inl ⟨by rfl, ?_⟩) (by assumption) ?_
        rotate_left
        · (intro w hSw; (try dsimp only at hSw); (go_simp <;> with_reducible rfl))
        try simp only [Act.put, List.setIfInBounds_toArray, List.set_cons_zero, List.set_cons_succ]
        refine wpAnyH_take (i := 30) (oi := { dst := some 104, op := Go.Op.fieldAddr 78 (Go.Operand.tmp 11) 1, type := 0, pos := "outright.go:49", after := #[{ on := 29, ground := Go.Ground.guard }], guard := some (29, false) }) (v := ?_) rfl (by kernel_rfl) (by kernel_rfl) (by kernel_rfl) (fun _ _ _ h => h) (Or.inl ⟨by rfl, ?_⟩) (by assumption) ?_
        rotate_left
        · (intro w hSw; (try dsimp only at hSw); (go_simp <;> with_reducible rfl))
        try simp only [Act.put, List.setIfInBounds_toArray, List.set_cons_zero, List.set_cons_succ]
        refine wpAnyH_take (i := 31) (oi := { dst := some 105, op := Go.Op.load 3 (Go.Operand.tmp 104), type := 3, pos := "outright.go:49", after := #[{ on := 30, ground := Go.Ground.data }, { on := 29, ground := Go.Ground.guard }], guard := some (29, false) }) (v := ?_) rfl (by kernel_rfl) (by kernel_rfl) (by kernel_rfl) (fun _ _ _ h => h) (Or.inl ⟨by rfl, ?_⟩) (by assumption) ?_
        rotate_left
        · (intro w hSw; (try dsimp only at hSw); (go_simp <;> with_reducible rfl))
        try simp only [Act.put, List.setIfInBounds_toArray, List.set_cons_zero, List.set_cons_succ]
        refine wpAnyH_take (i := 32) (oi := { dst := some 106, op := Go.Op.binOp Go.BinOp.lss 3 (Go.Operand.tmp 105) (Go.Operand.const (Go.Value.int Go.IntKind.i64 0)) 3, type := 4, pos := "outright.go:49", after := #[{ on := 31, ground := Go.Ground.data }, { on := 29, ground := Go.Ground.guard }], guard := some (29, false) }) (v := ?_) rfl (by kernel_rfl) (by kernel_rfl) (by kernel_rfl) (fun _ _ _ h => h) (Or.inl ⟨by rfl, ?_⟩) (by assumption) ?_
        rotate_left
        · (intro w hSw; (try dsimp only at hSw); (go_simp <;> with_reducible rfl))
        try simp only [Act.put, List.setIfInBounds_toArray, List.set_cons_zero, List.set_cons_succ]
        refine wpAnyH_take (i := 33) (oi := { dst := some 107, op := Go.Op.pick (Go.Operand.tmp 103) (Go.Operand.const (Go.Value.bool true)) (Go.Operand.tmp 106), type := 4, pos := "outright.go:49", after := #[{ on := 29, ground := Go.Ground.data }, { on := 32, ground := Go.Ground.data }], guard := none }) (v := ?_) rfl (by kernel_rfl) (by kernel_rfl) (by kernel_rfl) (fun _ _ _ h => h) (Or.inl ⟨by rfl, ?_⟩) (by assumption) ?_
        rotate_left
        · (intro w hSw; (try dsimp only at hSw); (go_simp <;> with_reducible rfl))
        try simp only [Act.put, List.setIfInBounds_toArray, List.set_cons_zero, List.set_cons_succ]
        refine wpAnyH_take (i := 34) (oi := { dst := some 108, op := Go.Op.move (Go.Operand.tmp 107), type := 4, pos := "outright.go:49", after := #[{ on := 33, ground := Go.Ground.data }, { on := 29, ground := Go.Ground.chain }], guard := none }) (v := ?_) rfl (by kernel_rfl) (by kernel_rfl) (by kernel_rfl) (fun _ _ _ h => h) (Or.inl ⟨by rfl, ?_⟩) (by assumption) ?_
        rotate_left
        · (intro w hSw; (try dsimp only at hSw); (go_simp <;> with_reducible rfl))
        try simp only [Act.put, List.setIfInBounds_toArray, List.set_cons_zero, List.set_cons_succ]
        refine wpAnyH_take (i := 35) (oi := { dst := some 109, op := Go.Op.fieldAddr 78 (Go.Operand.tmp 11) 1, type := 0, pos := "outright.go:49", after := #[{ on := 34, ground := Go.Ground.guard }], guard := some (34, false) }) (v := ?_) rfl (by kernel_rfl) (by kernel_rfl) (by kernel_rfl) (fun _ _ _ h => h) (Or.inl ⟨by rfl, ?_⟩) (by assumption) ?_
        rotate_left
        · (intro w hSw; (try dsimp only at hSw); (go_simp <;> with_reducible rfl))
        try simp only [Act.put, List.setIfInBounds_toArray, List.set_cons_zero, List.set_cons_succ]
        refine wpAnyH_take (i := 36) (oi := { dst := some 110, op := Go.Op.load 3 (Go.Operand.tmp 109), type := 3, pos := "outright.go:49", after := #[{ on := 35, ground := Go.Ground.data }, { on := 34, ground := Go.Ground.guard }], guard := some (34, false) }) (v := ?_) rfl (by kernel_rfl) (by kernel_rfl) (by kernel_rfl) (fun _ _ _ h => h) (Or.inl ⟨by rfl, ?_⟩) (by assumption) ?_
        rotate_left
        · (intro w hSw; (try dsimp only at hSw); (go_simp <;> with_reducible rfl))
        try simp only [Act.put, List.setIfInBounds_toArray, List.set_cons_zero, List.set_cons_succ]
        refine wpAnyH_take (i := 37) (oi := { dst := some 111, op := Go.Op.binOp Go.BinOp.geq 3 (Go.Operand.tmp 110) (Go.Operand.const (Go.Value.int Go.IntKind.i64 12)) 3, type := 4, pos := "outright.go:49", after := #[{ on := 36, ground := Go.Ground.data }, { on := 34, ground := Go.Ground.guard }], guard := some (34, false) }) (v := ?_) rfl (by kernel_rfl) (by kernel_rfl) (by kernel_rfl) (fun _ _ _ h => h) (Or.inl ⟨by rfl, ?_⟩) (by assumption) ?_
        rotate_left
        · (intro w hSw; refine geq_op (t := 3) (k := .i64) (x := .tmp 110) (y := .const (.int .i64 12)) (p := (xs : Int)) (q := 12) ?_ ?_ ?_ g2 w <;> rfl)
        try simp only [Act.put, List.setIfInBounds_toArray, List.set_cons_zero, List.set_cons_succ]
        refine wpAnyH_take (i := 38) (oi := { dst := some 112, op := Go.Op.pick (Go.Operand.tmp 108) (Go.Operand.const (Go.Value.bool true)) (Go.Operand.tmp 111), type := 4, pos := "outright.go:49", after := #[{ on := 34, ground := Go.Ground.data }, { on := 37, ground := Go.Ground.data }], guard := none }) (v := ?_) rfl (by kernel_rfl) (by kernel_rfl) (by kernel_rfl) (fun _ _ _ h => h) (Or.inl ⟨by rfl, ?_⟩) (by assumption) ?_
        rotate_left
        · (intro w hSw; (try dsimp only at hSw); (go_simp <;> with_reducible rfl))
        try simp only [Act.put, List.setIfInBounds_toArray, List.set_cons_zero, List.set_cons_succ]
        refine wpAnyH_take (i := 39) (oi := { dst := some 113, op := Go.Op.move (Go.Operand.tmp 112), type := 4, pos := "outright.go:49", after := #[{ on := 38, ground := Go.Ground.data }, { on := 34, ground := Go.Ground.chain }], guard := none }) (v := ?_) rfl (by kernel_rfl) (by kernel_rfl) (by kernel_rfl) (fun _ _ _ h => h) (Or.inl ⟨by rfl, ?_⟩) (by assumption) ?_
        rotate_left
        · (intro w hSw; (try dsimp only at hSw); (go_simp <;> with_reducible rfl))
        try simp only [Act.put, List.setIfInBounds_toArray, List.set_cons_zero, List.set_cons_succ]
        refine wpAnyH_take (i := 40) (oi := { dst := some 114, op := Go.Op.fieldAddr 78 (Go.Operand.tmp 11) 2, type := 0, pos := "outright.go:49", after := #[{ on := 39, ground := Go.Ground.guard }], guard := some (39, false) }) (v := ?_) rfl (by kernel_rfl) (by kernel_rfl) (by kernel_rfl) (fun _ _ _ h => h) (Or.inl ⟨by rfl, ?_⟩) (by assumption) ?_
        rotate_left
        · (intro w hSw; (try dsimp only at hSw); (go_simp <;> with_reducible rfl))
        try simp only [Act.put, List.setIfInBounds_toArray, List.set_cons_zero, List.set_cons_succ]
        refine wpAnyH_take (i := 41) (oi := { dst := some 115, op := Go.Op.load 2 (Go.Operand.tmp 114), type := 2, pos := "outright.go:49", after := #[{ on := 40, ground := Go.Ground.data }, { on := 39, ground := Go.Ground.guard }], guard := some (39, false) }) (v := ?_) rfl (by kernel_rfl) (by kernel_rfl) (by kernel_rfl) (fun _ _ _ h => h) (Or.inl ⟨by rfl, ?_⟩) (by assumption) ?_
        rotate_left
        · (intro w hSw; (try dsimp only at hSw); (go_simp <;> with_reducible rfl))
        try simp only [Act.put, List.setIfInBounds_toArray, List.set_cons_zero, List.set_cons_succ]
        refine wpAnyH_take (i := 42) (oi := { dst := some 116, op := Go.Op.binOp Go.BinOp.neq 2 (Go.Operand.tmp 115) (Go.Operand.const (Go.Value.int Go.IntKind.i64 0)) 2, type := 4, pos := "outright.go:49", after := #[{ on := 41, ground := Go.Ground.data }, { on := 39, ground := Go.Ground.guard }], guard := some (39, false) }) (v := ?_) rfl (by kernel_rfl) (by kernel_rfl) (by kernel_rfl) (fun _ _ _ h => h) (Or.inl ⟨by rfl, ?_⟩) (by assumption) ?_
        rotate_left
        · (intro w hSw; (try dsimp only at hSw); (go_simp <;> with_reducible rfl))
        try simp only [Act.put, List.setIfInBounds_toArray, List.set_cons_zero, List.set_cons_succ]
        refine wpAnyH_take (i := 43) (oi := { dst := some 117, op := Go.Op.move (Go.Operand.tmp 116), type := 4, pos := "outright.go:49", after := #[{ on := 42, ground := Go.Ground.data }, { on := 39, ground := Go.Ground.chain }, { on := 39, ground := Go.Ground.guard }], guard := some (39, false) }) (v := ?_) rfl (by kernel_rfl) (by kernel_rfl) (by kernel_rfl) (fun _ _ _ h => h) (Or.inl ⟨by rfl, ?_⟩) (by assumption) ?_
        rotate_left
        · (intro w hSw; (try dsimp only at hSw); (go_simp <;> with_reducible rfl))
        try simp only [Act.put, List.setIfInBounds_toArray, List.set_cons_zero, List.set_cons_succ]
        refine wpAnyH_take (i := 44) (oi := { dst := some 118, op := Go.Op.fieldAddr 78 (Go.Operand.tmp 11) 2, type := 0, pos := "outright.go:49", after := #[{ on := 43, ground := Go.Ground.guard }], guard := some (43, true) }) (v := ?_) rfl (by kernel_rfl) (by kernel_rfl) (by kernel_rfl) (fun _ _ _ h => h) (Or.inl ⟨by rfl, ?_⟩) (by assumption) ?_
        rotate_left
        · (intro w hSw; (try dsimp only at hSw); (go_simp <;> with_reducible rfl))
        try simp only [Act.put, List.setIfInBounds_toArray, List.set_cons_zero, List.set_cons_succ]
        refine wpAnyH_take (i := 45) (oi := { dst := some 119, op := Go.Op.load 2 (Go.Operand.tmp 118), type := 2, pos := "outright.go:49", after := #[{ on := 44, ground := Go.Ground.data }, { on := 43, ground := Go.Ground.guard }], guard := some (43, true) }) (v := ?_) rfl (by kernel_rfl) (by kernel_rfl) (by kernel_rfl) (fun _ _ _ h => h) (Or.inl ⟨by rfl, ?_⟩) (by assumption) ?_
        rotate_left
        · (intro w hSw; (try dsimp only at hSw); (go_simp <;> with_reducible rfl))
        try simp only [Act.put, List.setIfInBounds_toArray, List.set_cons_zero, List.set_cons_succ]
        refine wpAnyH_take (i := 46) (oi := { dst := some 120, op := Go.Op.move (Go.Operand.tmp 3), type := 31, pos := "outright.go:49", after := #[{ on := 43, ground := Go.Ground.guard }], guard := some (43, true) }) (v := ?_) rfl (by kernel_rfl) (by kernel_rfl) (by kernel_rfl) (fun _ _ _ h => h) (Or.inl ⟨by rfl, ?_⟩) (by assumption) ?_
        rotate_left
        · (intro w hSw; (try dsimp only at hSw); (go_simp <;> with_reducible rfl))
        try simp only [Act.put, List.setIfInBounds_toArray, List.set_cons_zero, List.set_cons_succ]
        refine wpAnyH_ready (rs := [47]) (by kernel_rfl) (by simp) ?_
        refine AllReadyH.cons (o := { dst := some 121, op := Go.Op.call { callee := Go.Callee.value (Go.Operand.func 32), args := #[Go.Operand.tmp 120], argTypes := #[31] }, type := 2, pos := "outright.go:49", after := #[{ on := 46, ground := Go.Ground.data }, { on := 43, ground := Go.Ground.chain }, { on := 43, ground := Go.Ground.guard }], guard := some (43, true) }) rfl (fun K hK => ?_) ?_
        rotate_left
        · exact AllReadyH.nil
        go_simp
        refine (HK.out _ _ HD5.out).mono ?_
        rintro e w7 ⟨rfl, rfl⟩
        go_wp2_with fail
        refine hK.out _ _ ?_ (fun hHeld => ?_)
        · ((try dsimp only); first | exact hKD | assumption)
        clear hK K
        try simp only [Act.put, List.setIfInBounds_toArray, List.set_cons_zero, List.set_cons_succ]
        refine wpAnyH_take (i := 48) (oi := { dst := some 122, op := Go.Op.binOp Go.BinOp.leq 2 (Go.Operand.tmp 119) (Go.Operand.tmp 121) 2, type := 4, pos := "outright.go:49", after := #[{ on := 45, ground := Go.Ground.data }, { on := 47, ground := Go.Ground.data }, { on := 43, ground := Go.Ground.guard }], guard := some (43, true) }) (v := ?_) rfl (by kernel_rfl) (by kernel_rfl) (by kernel_rfl) (fun _ _ _ h => h) (Or.inl ⟨by rfl, ?_⟩) (by assumption) ?_
        rotate_left
        · (intro w hSw; (try dsimp only at hSw); (go_simp <;> with_reducible rfl))
        try simp only [Act.put, List.setIfInBounds_toArray, List.set_cons_zero, List.set_cons_succ]
        refine wpAnyH_take (i := 49) (oi := { dst := some 123, op := Go.Op.pick (Go.Operand.tmp 117) (Go.Operand.tmp 122) (Go.Operand.const (Go.Value.bool false)), type := 4, pos := "outright.go:49", after := #[{ on := 43, ground := Go.Ground.data }, { on := 48, ground := Go.Ground.data }, { on := 39, ground := Go.Ground.guard }], guard := some (39, false) }) (v := ?_) rfl (by kernel_rfl) (by kernel_rfl) (by kernel_rfl) (fun _ _ _ h => h) (Or.inl ⟨by rfl, ?_⟩) (by assumption) ?_
        rotate_left
        · (intro w hSw; (try dsimp only at hSw); (go_simp <;> with_reducible rfl))
        try simp only [Act.put, List.setIfInBounds_toArray, List.set_cons_zero, List.set_cons_succ]
        refine wpAnyH_take (i := 50) (oi := { dst := some 124, op := Go.Op.pick (Go.Operand.tmp 113) (Go.Operand.const (Go.Value.bool true)) (Go.Operand.tmp 123), type := 4, pos := "outright.go:49", after := #[{ on := 39, ground := Go.Ground.data }, { on := 49, ground := Go.Ground.data }], guard := none }) (v := ?_) rfl (by kernel_rfl) (by kernel_rfl) (by kernel_rfl) (fun _ _ _ h => h) (Or.inl ⟨by rfl, ?_⟩) (by assumption) ?_
        rotate_left
        · (intro w hSw; (try dsimp only at hSw); (go_simp <;> with_reducible rfl))
        try simp only [Act.put, List.setIfInBounds_toArray, List.set_cons_zero, List.set_cons_succ]
        refine wpAnyH_done (by kernel_rfl) ?_ _
        by_cases ha : a = 0
        · subst ha
          have HPr : Hid (Pr (S.L.take j ++ [rd S.L j]) xu) := by
            have := HP.out.take (x := rd S.L j) (by rw [HRd.out]; exact hz) (.inl rfl)
            rw [HRd.out] at this ⊢
            exact this
          go_wp2
          go_roundg (gk - 1)
          case measure => omega
          case rel => exact ⟨j + 1, xi, xu, by omega, by go_num, rfl, rfl, HLast.out, by rw [← take_rd HJ.out]; exact HPr.out, _, HF5.out⟩
        · have ha1 : (a == 0) = false := by simpa using ha
          have ha2 : decide (a = 0) = false := by simpa using ha
          by_cases hlt : xu < a
          · have HPr : Hid (Pr (S.L.take j ++ [rd S.L j]) xu) := by
              have := HP.out.take (x := rd S.L j) (by rw [HRd.out]; exact hz) (.inr (by rw [HRd.out]; exact hlt))
              rw [HRd.out] at this ⊢
              exact this
            go_wp2
            go_roundg (gk - 1)
            case measure => omega
            case rel => exact ⟨j + 1, xi, xu, by omega, by go_num, rfl, rfl, HLast.out, by rw [← take_rd HJ.out]; exact HPr.out, _, HF5.out⟩
          · have HPr : Hid (Pr (S.L.take j ++ [rd S.L j]) a) := HP.out.keep (.inr ⟨ha, by rw [HRd.out]; exact Int.not_lt.1 hlt⟩)
            go_wp2
            go_roundg (gk - 1)
            case measure => omega
            case rel => exact ⟨j + 1, xi, a, by omega, by go_num, rfl, rfl, HLast.out, by rw [← take_rd HJ.out]; exact HPr.out, _, HF5.out⟩
    · have hj : j = n := by omega
      subst hj
      have HPn : Hid (Pr S.L a) := by have h := HP.out; rw [← HN.out, List.take_length] at h; exact h
      have HB2 := hide HB.out.1
      have HSt : Hid (∀ W Bs (s : Nat), s < 12 → Lk w W b S 300 p Bs → Calls Tryz.prog 30 #[.pointer (some ⟨b, 0, none⟩), .int .i64 (s : Int)] W fun e w' => ∃ (x : Bg) (er : Int), e = .returned (.tuple #[.agg #[.int .u32 (x.i : Int), .int .i64 (x.s : Int), .int .i64 x.u], .int .i64 er]) ∧ ((er = 0 ∧ x.s = s ∧ (sat S.L s).isSome = true) ∨ (er = 171 ∧ (sat S.L s).isSome = false)) ∧ Lk w w' b S 300 p Bs) := by
        intro W Bs s hs h
        refine (h.seat HM.out.1.wk (s : Int)).mono ?_
        rintro e w' ⟨rfl, hh⟩
        have hc : (0 : Int) ≤ (s : Int) ∧ (s : Int) < (S.a : Int) := by have := HM.out.2.1; omega
        refine ⟨atX S s, atE S s, rfl, ?_, hh⟩
        unfold atX atE
        rw [if_pos hc, if_pos hc, Int.toNat_natCast]
        cases hq : sat S.L s with
        | none => exact .inr ⟨rfl, rfl⟩
        | some x => exact .inl ⟨rfl, ((sat_some HM.out.1.one).1 hq).2, rfl⟩
      have HDue : Hid (∀ W Bs, Lk w W b S 300 p Bs → Calls Tryz.prog 33 #[.pointer (some ⟨b, 0, none⟩)] W fun e w' => ∃ x c, e = .returned (.tuple #[.int .i64 x.u, .bool c]) ∧ Fst S x c ∧ Lk w w' b S 300 p Bs) := fun W Bs h => h.due HM.out.1.wk
      clear HX HK HG HAt HBd HLl HP HB HRow hk hkj
      go_wp2
      go_loopg [9, 16] 12 (fun k c i wr => ∃ s c0 : Nat, k + s = 12 ∧ i = .int .i64 s ∧ c = .int .i64 (c0 : Int) ∧ Hid (c0 = cntS S.L s) ∧ ∃ Bs, Hid (Lk w wr b S 300 p Bs))
      case atStart => exact ⟨0, 0, by omega, rfl, rfl, (cntS_zero _).symm, _, HB2.out⟩
      case round =>
        clear HB2
        obtain ⟨s, c0, hks, rfl, rfl, HC0, Bs2, HB3⟩ := hrel
        have HC := hide (cntS_succ HM.out.1.one s)
        by_cases hk2 : 0 < gk
        · have h1 : (s : Int) < 12 := by omega
          have hc8 : c0 ≤ 4294967296 := by
            rw [HC0.out]
            exact Nat.le_trans (List.length_filter_le _ _) (by have := HN.out; omega)
          go_wp2_with fail
          refine (HSt.out _ _ s (by omega) HB3.out).mono ?_
          rintro e w6 ⟨⟨xi, xs, xu⟩, er, rfl, hd, hh⟩
          have HB4 := hide (hh.box [.int .u32 (xi : Int), .int .i64 (xs : Int), .int .i64 xu] 78)
          clear hh HB3 HSt
          rcases hd with ⟨rfl, hxs, hsat⟩ | ⟨rfl, hsat⟩
          · simp only at hxs
            subst hxs
            have HC1 : Hid (c0 + 1 = cntS S.L (xs + 1)) := by rw [HC.out, hsat, HC0.out]; rfl
            clear hsat
            go_wp2
            go_roundg (gk - 1)
            case measure => omega
            case rel => exact ⟨xs + 1, c0 + 1, by omega, by go_num, by go_num, HC1.out, _, HB4.out⟩
          · have HC1 : Hid (c0 = cntS S.L (s + 1)) := by rw [HC.out, hsat, HC0.out]; rfl
            clear hsat
            go_wp2
            go_roundg (gk - 1)
            case measure => omega
            case rel => exact ⟨s + 1, c0, by omega, by go_num, rfl, HC1.out, _, HB4.out⟩
        · have hs : s = 12 := by omega
          subst hs
          have hc : c0 = j := by
            rw [HC0.out, cntS_all (fun x hx => by have := HM.out.1.st x hx; rw [HM.out.2.1] at this; exact this)]
            exact HN.out
          subst hc
          go_wp2_with fail
          refine (HDue.out _ _ HB3.out).mono ?_
          rintro e w7 ⟨⟨xi, xs, xu⟩, cc, rfl, hF, hh⟩
          obtain ⟨hxu, hac⟩ := HPn.out.due hF
          simp only at hxu
          subst hxu
          have HE := hide hh.gr
          clear hF hh HB3 HDue HSt HC HC0 HPn
          rcases hac with ⟨rfl, rfl⟩ | ⟨ha, rfl⟩
          · go_wp2
            go_ret
            exact ⟨rfl, HE.out⟩
          · have ha3 : (xu != 0) = true := by simpa using ha
            have ha1 : (xu == 0) = false := by simpa using ha
            have ha2 : decide (xu = 0) = false := by simpa using ha
            go_wp2
            go_ret
            exact ⟨rfl, HE.out⟩
end Go.Proofs.YtcbiloomnkbalaaGreatDoor
