/- Texts joined: Wo6. -/
import Derived.Test.YtnonghacjfgnmaaJyAe
/- A step of the script: what is written. -/
namespace Go.Proofs.Ytnonghacjfgnmaa
open Go.RowKit Ap
attribute [local go_sem ↓] Go.wp_at_zero Go.wp_at_succ

section
variable {w0 w : World} {n size g : Nat} {p : Px} {x y : Option Pl}
set_option maxRecDepth 20000 in
set_option maxHeartbeats 16000000 in
theorem play_write (h : St w0 w n size g p x y) (hn9 : n ≤ 9) (hW : p.W.length ≤ 5000) (hcn : p.s.cnt ≤ 9000) (ot : Bool) (at_ nn F C : Int) (B : List Nat) (fs : List (Int × Int)) (bo : Option Addr) (bc : Nat) (fo : Option Addr) (fc : Nat) (hs : SIn w0 ⟨2, ot, at_, nn, B, F, C, fs⟩ bo bc fo fc) (o : Pl) (hz : (if ot then y else x) = some o) :
    Calls Try.prog 21 #[.pointer (some ⟨g, 0, none⟩), .agg #[.int .i64 2, .bool ot, .int .i64 at_, .int .i64 nn, .slice bo B.length bc, .int .i64 F, .int .i64 C, .slice fo fs.length fc]] w fun e w' => Played w0 w' n size g p e := by
  have HS0 := hide hs
  have HW := hide (And.intro hW (And.intro hcn hn9))
  have HST := hide h
  clear hs hW hcn hn9 h
  cases ot with
  | false =>
    replace hz : x = some o := hz
    subst hz
    have g1 := World.grownBy_alloc w (.cells #[.int .i64 2, .bool false, .int .i64 at_, .int .i64 nn, .slice bo B.length bc, .int .i64 F, .int .i64 C, .slice fo fs.length fc] 59) none
    have r1 : (w.alloc (.cells #[.int .i64 2, .bool false, .int .i64 at_, .int .i64 nn, .slice bo B.length bc, .int .i64 F, .int .i64 C, .slice fo fs.length fc] 59)).heap[w.heap.size]? = some (.cells (ocells ⟨2, false, at_, nn, B, F, C, fs⟩ bo bc fo fc).toArray 59 (0, 0)) := heap_alloc_new w _
    have HS := hide (HST.out.then g1)
    have NB := hide (HS.out.px.away r1 (by decide) (by decide) (by decide) (by decide) (by decide) (by decide) (by decide) (by decide))
    have NA := hide HS.out.off
    have y0 : (w.alloc (.cells #[.int .i64 2, .bool false, .int .i64 at_, .int .i64 nn, .slice bo B.length bc, .int .i64 F, .int .i64 C, .slice fo fs.length fc] 59)).cell? ⟨w.heap.size, 0, none⟩ = some (.int .i64 2) := cell_row r1 0
    have y1 : (w.alloc (.cells #[.int .i64 2, .bool false, .int .i64 at_, .int .i64 nn, .slice bo B.length bc, .int .i64 F, .int .i64 C, .slice fo fs.length fc] 59)).cell? ⟨w.heap.size, 1, none⟩ = some (.bool false) := cell_row r1 1
    have y2 : (w.alloc (.cells #[.int .i64 2, .bool false, .int .i64 at_, .int .i64 nn, .slice bo B.length bc, .int .i64 F, .int .i64 C, .slice fo fs.length fc] 59)).cell? ⟨w.heap.size, 2, none⟩ = some (.int .i64 at_) := cell_row r1 2
    have y3 : (w.alloc (.cells #[.int .i64 2, .bool false, .int .i64 at_, .int .i64 nn, .slice bo B.length bc, .int .i64 F, .int .i64 C, .slice fo fs.length fc] 59)).cell? ⟨w.heap.size, 3, none⟩ = some (.int .i64 nn) := cell_row r1 3
    have y4 : (w.alloc (.cells #[.int .i64 2, .bool false, .int .i64 at_, .int .i64 nn, .slice bo B.length bc, .int .i64 F, .int .i64 C, .slice fo fs.length fc] 59)).cell? ⟨w.heap.size, 4, none⟩ = some (.slice bo B.length bc) := cell_row r1 4
    have y5 : (w.alloc (.cells #[.int .i64 2, .bool false, .int .i64 at_, .int .i64 nn, .slice bo B.length bc, .int .i64 F, .int .i64 C, .slice fo fs.length fc] 59)).cell? ⟨w.heap.size, 5, none⟩ = some (.int .i64 F) := cell_row r1 5
    have y6 : (w.alloc (.cells #[.int .i64 2, .bool false, .int .i64 at_, .int .i64 nn, .slice bo B.length bc, .int .i64 F, .int .i64 C, .slice fo fs.length fc] 59)).cell? ⟨w.heap.size, 6, none⟩ = some (.int .i64 C) := cell_row r1 6
    have y7 : (w.alloc (.cells #[.int .i64 2, .bool false, .int .i64 at_, .int .i64 nn, .slice bo B.length bc, .int .i64 F, .int .i64 C, .slice fo fs.length fc] 59)).cell? ⟨w.heap.size, 7, none⟩ = some (.slice fo fs.length fc) := cell_row r1 7
    have c0 := HS.out.c0
    have c1 := HS.out.c1
    have ca := HS.out.c2
    have cb := HS.out.c4
    simp only [rV] at ca
    simp only [qV] at cb
    clear g1 r1
    go_enter Try.func21, Try.ntmps21
    go_wp2_with fail
    generalize w.alloc (.cells #[.int .i64 2, .bool false, .int .i64 at_, .int .i64 nn, .slice bo B.length bc, .int .i64 F, .int .i64 C, .slice fo fs.length fc] 59) = wa at *
    generalize w.heap.size = B1 at *
    go_quiet (fail)
    have HB := hide (HS.out.then (grown_drewN wa nq none))
    have y0 : (wa.drewN nq).cell? ⟨B1, 0, none⟩ = some (.int .i64 2) := y0
    have y2 : (wa.drewN nq).cell? ⟨B1, 2, none⟩ = some (.int .i64 at_) := y2
    have y3 : (wa.drewN nq).cell? ⟨B1, 3, none⟩ = some (.int .i64 nn) := y3
    have y4 : (wa.drewN nq).cell? ⟨B1, 4, none⟩ = some (.slice bo B.length bc) := y4
    have y5 : (wa.drewN nq).cell? ⟨B1, 5, none⟩ = some (.int .i64 F) := y5
    have y6 : (wa.drewN nq).cell? ⟨B1, 6, none⟩ = some (.int .i64 C) := y6
    have y7 : (wa.drewN nq).cell? ⟨B1, 7, none⟩ = some (.slice fo fs.length fc) := y7
    have c0 := HB.out.c0
    have c1 := HB.out.c1
    clear ca cb y1 HS
    generalize wa.drewN nq = wb at *
    have HP := hide (HB.out.fst o rfl)
    have est := hide HB.out.same.st
    have hV : p.q.V.length ≤ 5000 := by have := HB.out.same.len; have := HW.out.1; omega
    have ht : p.t.cnt ≤ 9000 := by rw [← est.out]; exact HW.out.2.1
    have HSH : Hid (∀ i, i < n → rrbytes n (rst p.q) (i : Int) = secOf size (now size p.D (abs p.W)) i) := fun i hi => same_shows HB.out.same HB.out.px.dev.disk.disk i hi
    have hC9 : o.C ≤ 9 := by have := HP.out.fit; have := HW.out.2.2; omega
    have s0 : 0 < size := by have := HB.out.px.dev.disk.disk.shape.s0; omega
    have s1 := HB.out.px.dev.disk.disk.shape.s1
    have hall : o.C * size ≤ 9 * 4096 := Nat.mul_le_mul hC9 s1
    have hh1 := HS0.out.h1
    simp only at hh1
    have HG0 := hide HB.out.px.dev.disk.grown
    have BI : Hid (BIn wb bo bc B) := HS0.out.b.grown HG0.out
    have HLT := hide HS0.out.lt
    have HLO := hide HB.out.px.low
    go_wp2_with fail
    refine (lent_any bo B.length bc B wb rfl BI.out.at_ BI.out.nil BI.out.size).mono ?_
    rintro e w2 ⟨v, rfl, l2, g2⟩
    obtain ⟨gg, cap2, rfl, x1, x2, x3, x4, x5, cur, x6, x7⟩ := l2.all
    have HB2 := hide (HB.out.then g2)
    have HP2 := hide (HP.out.grown g2)
    have A2 := hide (And.intro x6 (And.intro x5 (And.intro x3 x4)))
    have hatB : Hid (At w2 (some ⟨gg, 0, none⟩) B) := fun i u hu => x5 i u (by rw [List.getElem?_append_left (List.getElem?_eq_some_iff.1 hu).1]; exact hu)
    have NG : Hid (¬ p.all gg) := fun e => by have := HB.out.px.lt gg e; have := A2.out.2.2.1; omega
    have K0 := hide ((PxW.refl HB.out.px).new g2)
    have K2 := hide (PxW.refl HB2.out.px)
    have u2 := g2.cell y2 (by simp)
    have u4 := g2.cell y4 (by simp)
    have u0 := g2.cell y0 (by simp)
    clear l2 g2 x3 x4 x5 x6 y0 y2 y3 y4 y5 y6 y7 c0 c1
    by_cases hm : 0 ≤ at_ ∧ (B.length : Int) ≤ ((o.C * size : Nat) : Int) - at_
    · obtain ⟨hm1, hm3⟩ := hm
      obtain ⟨a, rfl⟩ := Int.eq_ofNat_of_zero_le hm1
      have hfit : a + B.length ≤ o.C * size := by omega
      have hpc := pcn_cnt s0 hfit
      have HFIT := hide hfit
      clear hfit hall hm1 hm3
      go_wp2_with fail
      refine (gWrite_at HB2.out.px.dev HP2.out.r HP.out.fit a cap2 (some ⟨gg, 0, none⟩) B hatB.out (by omega) HFIT.out (fun a e _ => by cases e; exact ⟨fun e => NG.out (.inl (.inl e)), fun e => NG.out (.inr (.inr (.inl e)))⟩) (by have := HW.out.1; omega) (by have := HW.out.2.1; omega)).mono ?_
      rintro e w3 ⟨c, rfl, hx⟩
      obtain ⟨k3, W3, d3, m3, a3⟩ := hx.left
      have H3 := hide (K0.out.dev d3 m3)
      have K3 := hide (K2.out.dev d3 m3)
      have HP3 : Hid (PlAt w3 n p.b p.c o) := HP2.out.stay HB2.out.px K3.out.mv
      have NS : ∀ i, ¬ p.all i → ¬ (p.k.own i ∨ i = p.b) := fun i h e => e.elim (fun e => h (.inl (.inl e))) (fun e => h (.inr (.inr (.inl e))))
      have A3 : Hid (w3.heap[gg]? = some (.cells cur 5 (0, 0)) ∧ At w3 (some ⟨gg, 0, none⟩) (B ++ marks 1 12) ∧ At w3 bo B) := ⟨m3.kept.at A2.out.1 (NS gg NG.out), at_off A2.out.2.1 m3.kept (fun a e _ => by cases e; exact NS gg NG.out), HS0.out.b.at_.grown H3.out.z.dev.disk.grown⟩
      have v2 := keep_d (p := p) m3 u2 NB.out
      have v4 := keep_d (p := p) m3 u4 NB.out
      have E3 := hide (And.intro hx.code a3)
      have HM3 := hide m3
      clear hx d3 m3 a3 u0 u2 u4 NS
      go_wp2_with fail
      refine (qWrite_at H3.out.z.rd HP3.out.q HP.out.fit a bc bo B A3.out.2.2 BI.out.cap HFIT.out (fun a e l => by have h1 := HLT.out a e l; exact ⟨fun e => by have := HLO.out _ (.inr (.inl e)); omega, fun e => by have := HLO.out _ (.inr (.inr (.inr e))); omega⟩) (by show p.q.V.length + _ ≤ _; omega) (by show p.t.cnt + _ < _; omega) (now size p.D (abs p.W)) (now_len HB.out.px.dev.disk.disk.len HB.out.px.dev.disk.disk.fitsW) HSH.out).mono ?_
      rintro e w4 ⟨c', rfl, q1, q2, qq, d4, m4, a4⟩
      have hcc : c' = c := by rw [q1, E3.out.1, est.out]
      subst hcc
      have H4 := hide (H3.out.ref d4 m4)
      have K4 := hide (K3.out.ref d4 m4)
      have NS : ¬ (rfoot p.q gg ∨ gg = p.c) := fun e => e.elim (fun e => NG.out (.inr (.inl e))) (fun e => NG.out (.inr (.inr (.inr e))))
      have A4 : Hid (w4.heap[gg]? = some (.cells cur 5 (0, 0)) ∧ At w4 (some ⟨gg, 0, none⟩) (B ++ marks 1 12) ∧ At w4 bo B) := ⟨m4.kept.at A3.out.1 NS, at_off A3.out.2.1 m4.kept (fun a e _ => by cases e; exact NS), HS0.out.b.at_.grown H4.out.z.dev.disk.grown⟩
      have w4c := keep_r (p := p) m4 v4 NB.out
      have HSA : Hid (PxSame n size ⟨p.b, (wgo (full size a B.length) (pcn size a B.length) 0 p.s).2.2, k3, p.D, W3, p.c, (wgo (full size a B.length) (pcn size a B.length) 0 p.t).2.2, qq⟩) := by
        refine ⟨by show (wgo (full size a B.length) (pcn size a B.length) 0 p.s).2.2 = (wgo (full size a B.length) (pcn size a B.length) 0 p.t).2.2; rw [est.out], ?_, ?_⟩
        · show secs n size p.D = (rst qq).1
          rw [a4]; exact HB.out.same.rows
        · show abs W3 = (rst qq).2
          rw [a4, E3.out.2, HB.out.same.waits, est.out]
      have HLN : Hid (W3.length ≤ p.W.length + 9) := by
        have h1 := congrArg List.length E3.out.2
        have h2 := (wgo_cnt (full size a B.length) (pcn size a B.length) 0 p.s).2
        rw [List.length_append, pcs_length] at h1
        simp only [abs, List.length_map] at h1
        show _ ≤ _
        omega
      have HCN : Hid ((wgo (full size a B.length) (pcn size a B.length) 0 p.s).2.2.cnt ≤ p.s.cnt + 18) := by
        have := (wgo_cnt (full size a B.length) (pcn size a B.length) 0 p.s).1
        show _ ≤ _
        omega
      have NG4 : Hid (¬ (⟨p.b, (wgo (full size a B.length) (pcn size a B.length) 0 p.s).2.2, k3, p.D, W3, p.c, (wgo (full size a B.length) (pcn size a B.length) 0 p.t).2.2, qq⟩ : Px).all gg) := fun e => by
        rcases K4.out.mv.all gg e with e | e
        · exact NG.out e
        · have := A2.out.2.2.2; omega
      clear q1 q2 d4 m4 a4 v2 v4 NS
      go_wp2_with fail
      refine (kept_any gg cap2 bo B.length bc B w4 rfl x1 x2 A4.out.2.1 A4.out.2.2 (by have := HS0.out.b.size; simp only at this; omega)).mono ?_
      rintro e w5 ⟨rfl, g5⟩
      have R5 := hide ((g5.block _ (row_lt A4.out.1) (by simp)).trans A4.out.1)
      have G5 := hide g5
      clear g5
      go_wp2_with fail
      refine (over_any gg cap2 B.length w5 ⟨cur, R5.out, x7⟩ x1 x2 (by have := HS0.out.b.size; simp only at this; omega)).mono ?_
      rintro e w6 ⟨rfl, g6⟩
      have G6 := hide g6
      clear g6
      go_wp2
      go_ret
      exact ⟨rfl, _, (some o), y, HB.out.moved ((H4.out.new G5.out).row G6.out A2.out.2.2.1 NG4.out) HSA.out, HLN.out, HCN.out⟩
    · have hb : mcode (o.C * size) at_ B.length = 2 := by unfold mcode; rw [if_neg (by omega)]
      have HBAD := hide hb
      have hbs : B.length ≤ 9223372036854775807 := by have := BI.out.size; omega
      clear hb hm hall
      go_wp2_with fail
      refine (gWrite_bad HB2.out.px.dev HP2.out.r (by omega) at_ B.length cap2 _ hh1 hbs HBAD.out).mono ?_
      rintro e w3 ⟨rfl, g3⟩
      have v2 := g3.cell u2 (by simp)
      have v4 := g3.cell u4 (by simp)
      have G3 := hide g3
      clear g3 u0 u2 u4
      go_wp2_with fail
      refine (qWrite_bad (HB2.out.px.rd.then G3.out) (HP2.out.q.grown G3.out) (by omega) at_ B.length bc _ hh1 hbs HBAD.out).mono ?_
      rintro e w4 ⟨rfl, g4⟩
      have w4c := g4.cell v4 (by simp)
      have G4 := hide (grown_trans G3.out g4)
      have A4 : Hid (w4.heap[gg]? = some (.cells cur 5 (0, 0)) ∧ At w4 (some ⟨gg, 0, none⟩) (B ++ marks 1 12) ∧ At w4 bo B) := ⟨(G4.out.block _ (row_lt A2.out.1) (by simp)).trans A2.out.1, A2.out.2.1.grown G4.out, HS0.out.b.at_.grown (HB2.out.then G4.out).px.dev.disk.grown⟩
      clear g4 v2 v4
      go_wp2_with fail
      refine (kept_any gg cap2 bo B.length bc B w4 rfl x1 x2 A4.out.2.1 A4.out.2.2 (by have := HS0.out.b.size; simp only at this; omega)).mono ?_
      rintro e w5 ⟨rfl, g5⟩
      have R5 := hide ((g5.block _ (row_lt A4.out.1) (by simp)).trans A4.out.1)
      have G5 := hide g5
      clear g5
      go_wp2_with fail
      refine (over_any gg cap2 B.length w5 ⟨cur, R5.out, x7⟩ x1 x2 (by have := HS0.out.b.size; simp only at this; omega)).mono ?_
      rintro e w6 ⟨rfl, g6⟩
      have G6 := hide g6
      clear g6
      go_wp2
      go_ret
      exact ⟨rfl, p, (some o), y, HB.out.moved (((K0.out.new G4.out).new G5.out).row G6.out A2.out.2.2.1 NG.out) HB.out.same, by omega, by omega⟩
  | true =>
    replace hz : y = some o := hz
    subst hz
    have g1 := World.grownBy_alloc w (.cells #[.int .i64 2, .bool true, .int .i64 at_, .int .i64 nn, .slice bo B.length bc, .int .i64 F, .int .i64 C, .slice fo fs.length fc] 59) none
    have r1 : (w.alloc (.cells #[.int .i64 2, .bool true, .int .i64 at_, .int .i64 nn, .slice bo B.length bc, .int .i64 F, .int .i64 C, .slice fo fs.length fc] 59)).heap[w.heap.size]? = some (.cells (ocells ⟨2, true, at_, nn, B, F, C, fs⟩ bo bc fo fc).toArray 59 (0, 0)) := heap_alloc_new w _
    have HS := hide (HST.out.then g1)
    have NB := hide (HS.out.px.away r1 (by decide) (by decide) (by decide) (by decide) (by decide) (by decide) (by decide) (by decide))
    have NA := hide HS.out.off
    have y0 : (w.alloc (.cells #[.int .i64 2, .bool true, .int .i64 at_, .int .i64 nn, .slice bo B.length bc, .int .i64 F, .int .i64 C, .slice fo fs.length fc] 59)).cell? ⟨w.heap.size, 0, none⟩ = some (.int .i64 2) := cell_row r1 0
    have y1 : (w.alloc (.cells #[.int .i64 2, .bool true, .int .i64 at_, .int .i64 nn, .slice bo B.length bc, .int .i64 F, .int .i64 C, .slice fo fs.length fc] 59)).cell? ⟨w.heap.size, 1, none⟩ = some (.bool true) := cell_row r1 1
    have y2 : (w.alloc (.cells #[.int .i64 2, .bool true, .int .i64 at_, .int .i64 nn, .slice bo B.length bc, .int .i64 F, .int .i64 C, .slice fo fs.length fc] 59)).cell? ⟨w.heap.size, 2, none⟩ = some (.int .i64 at_) := cell_row r1 2
    have y3 : (w.alloc (.cells #[.int .i64 2, .bool true, .int .i64 at_, .int .i64 nn, .slice bo B.length bc, .int .i64 F, .int .i64 C, .slice fo fs.length fc] 59)).cell? ⟨w.heap.size, 3, none⟩ = some (.int .i64 nn) := cell_row r1 3
    have y4 : (w.alloc (.cells #[.int .i64 2, .bool true, .int .i64 at_, .int .i64 nn, .slice bo B.length bc, .int .i64 F, .int .i64 C, .slice fo fs.length fc] 59)).cell? ⟨w.heap.size, 4, none⟩ = some (.slice bo B.length bc) := cell_row r1 4
    have y5 : (w.alloc (.cells #[.int .i64 2, .bool true, .int .i64 at_, .int .i64 nn, .slice bo B.length bc, .int .i64 F, .int .i64 C, .slice fo fs.length fc] 59)).cell? ⟨w.heap.size, 5, none⟩ = some (.int .i64 F) := cell_row r1 5
    have y6 : (w.alloc (.cells #[.int .i64 2, .bool true, .int .i64 at_, .int .i64 nn, .slice bo B.length bc, .int .i64 F, .int .i64 C, .slice fo fs.length fc] 59)).cell? ⟨w.heap.size, 6, none⟩ = some (.int .i64 C) := cell_row r1 6
    have y7 : (w.alloc (.cells #[.int .i64 2, .bool true, .int .i64 at_, .int .i64 nn, .slice bo B.length bc, .int .i64 F, .int .i64 C, .slice fo fs.length fc] 59)).cell? ⟨w.heap.size, 7, none⟩ = some (.slice fo fs.length fc) := cell_row r1 7
    have c0 := HS.out.c0
    have c1 := HS.out.c1
    have ca := HS.out.c3
    have cb := HS.out.c5
    simp only [rV] at ca
    simp only [qV] at cb
    clear g1 r1
    go_enter Try.func21, Try.ntmps21
    go_wp2_with fail
    generalize w.alloc (.cells #[.int .i64 2, .bool true, .int .i64 at_, .int .i64 nn, .slice bo B.length bc, .int .i64 F, .int .i64 C, .slice fo fs.length fc] 59) = wa at *
    generalize w.heap.size = B1 at *
    go_quiet (fail)
    have HB := hide (HS.out.then (grown_drewN wa nq none))
    have y0 : (wa.drewN nq).cell? ⟨B1, 0, none⟩ = some (.int .i64 2) := y0
    have y2 : (wa.drewN nq).cell? ⟨B1, 2, none⟩ = some (.int .i64 at_) := y2
    have y3 : (wa.drewN nq).cell? ⟨B1, 3, none⟩ = some (.int .i64 nn) := y3
    have y4 : (wa.drewN nq).cell? ⟨B1, 4, none⟩ = some (.slice bo B.length bc) := y4
    have y5 : (wa.drewN nq).cell? ⟨B1, 5, none⟩ = some (.int .i64 F) := y5
    have y6 : (wa.drewN nq).cell? ⟨B1, 6, none⟩ = some (.int .i64 C) := y6
    have y7 : (wa.drewN nq).cell? ⟨B1, 7, none⟩ = some (.slice fo fs.length fc) := y7
    have c0 := HB.out.c0
    have c1 := HB.out.c1
    clear ca cb y1 HS
    generalize wa.drewN nq = wb at *
    have HP := hide (HB.out.snd o rfl)
    have est := hide HB.out.same.st
    have hV : p.q.V.length ≤ 5000 := by have := HB.out.same.len; have := HW.out.1; omega
    have ht : p.t.cnt ≤ 9000 := by rw [← est.out]; exact HW.out.2.1
    have HSH : Hid (∀ i, i < n → rrbytes n (rst p.q) (i : Int) = secOf size (now size p.D (abs p.W)) i) := fun i hi => same_shows HB.out.same HB.out.px.dev.disk.disk i hi
    have hC9 : o.C ≤ 9 := by have := HP.out.fit; have := HW.out.2.2; omega
    have s0 : 0 < size := by have := HB.out.px.dev.disk.disk.shape.s0; omega
    have s1 := HB.out.px.dev.disk.disk.shape.s1
    have hall : o.C * size ≤ 9 * 4096 := Nat.mul_le_mul hC9 s1
    have hh1 := HS0.out.h1
    simp only at hh1
    have HG0 := hide HB.out.px.dev.disk.grown
    have BI : Hid (BIn wb bo bc B) := HS0.out.b.grown HG0.out
    have HLT := hide HS0.out.lt
    have HLO := hide HB.out.px.low
    go_wp2_with fail
    refine (lent_any bo B.length bc B wb rfl BI.out.at_ BI.out.nil BI.out.size).mono ?_
    rintro e w2 ⟨v, rfl, l2, g2⟩
    obtain ⟨gg, cap2, rfl, x1, x2, x3, x4, x5, cur, x6, x7⟩ := l2.all
    have HB2 := hide (HB.out.then g2)
    have HP2 := hide (HP.out.grown g2)
    have A2 := hide (And.intro x6 (And.intro x5 (And.intro x3 x4)))
    have hatB : Hid (At w2 (some ⟨gg, 0, none⟩) B) := fun i u hu => x5 i u (by rw [List.getElem?_append_left (List.getElem?_eq_some_iff.1 hu).1]; exact hu)
    have NG : Hid (¬ p.all gg) := fun e => by have := HB.out.px.lt gg e; have := A2.out.2.2.1; omega
    have K0 := hide ((PxW.refl HB.out.px).new g2)
    have K2 := hide (PxW.refl HB2.out.px)
    have u2 := g2.cell y2 (by simp)
    have u4 := g2.cell y4 (by simp)
    have u0 := g2.cell y0 (by simp)
    clear l2 g2 x3 x4 x5 x6 y0 y2 y3 y4 y5 y6 y7 c0 c1
    by_cases hm : 0 ≤ at_ ∧ (B.length : Int) ≤ ((o.C * size : Nat) : Int) - at_
    · obtain ⟨hm1, hm3⟩ := hm
      obtain ⟨a, rfl⟩ := Int.eq_ofNat_of_zero_le hm1
      have hfit : a + B.length ≤ o.C * size := by omega
      have hpc := pcn_cnt s0 hfit
      have HFIT := hide hfit
      clear hfit hall hm1 hm3
      go_wp2_with fail
      refine (gWrite_at HB2.out.px.dev HP2.out.r HP.out.fit a cap2 (some ⟨gg, 0, none⟩) B hatB.out (by omega) HFIT.out (fun a e _ => by cases e; exact ⟨fun e => NG.out (.inl (.inl e)), fun e => NG.out (.inr (.inr (.inl e)))⟩) (by have := HW.out.1; omega) (by have := HW.out.2.1; omega)).mono ?_
      rintro e w3 ⟨c, rfl, hx⟩
      obtain ⟨k3, W3, d3, m3, a3⟩ := hx.left
      have H3 := hide (K0.out.dev d3 m3)
      have K3 := hide (K2.out.dev d3 m3)
      have HP3 : Hid (PlAt w3 n p.b p.c o) := HP2.out.stay HB2.out.px K3.out.mv
      have NS : ∀ i, ¬ p.all i → ¬ (p.k.own i ∨ i = p.b) := fun i h e => e.elim (fun e => h (.inl (.inl e))) (fun e => h (.inr (.inr (.inl e))))
      have A3 : Hid (w3.heap[gg]? = some (.cells cur 5 (0, 0)) ∧ At w3 (some ⟨gg, 0, none⟩) (B ++ marks 1 12) ∧ At w3 bo B) := ⟨m3.kept.at A2.out.1 (NS gg NG.out), at_off A2.out.2.1 m3.kept (fun a e _ => by cases e; exact NS gg NG.out), HS0.out.b.at_.grown H3.out.z.dev.disk.grown⟩
      have v2 := keep_d (p := p) m3 u2 NB.out
      have v4 := keep_d (p := p) m3 u4 NB.out
      have E3 := hide (And.intro hx.code a3)
      have HM3 := hide m3
      clear hx d3 m3 a3 u0 u2 u4 NS
      go_wp2_with fail
      refine (qWrite_at H3.out.z.rd HP3.out.q HP.out.fit a bc bo B A3.out.2.2 BI.out.cap HFIT.out (fun a e l => by have h1 := HLT.out a e l; exact ⟨fun e => by have := HLO.out _ (.inr (.inl e)); omega, fun e => by have := HLO.out _ (.inr (.inr (.inr e))); omega⟩) (by show p.q.V.length + _ ≤ _; omega) (by show p.t.cnt + _ < _; omega) (now size p.D (abs p.W)) (now_len HB.out.px.dev.disk.disk.len HB.out.px.dev.disk.disk.fitsW) HSH.out).mono ?_
      rintro e w4 ⟨c', rfl, q1, q2, qq, d4, m4, a4⟩
      have hcc : c' = c := by rw [q1, E3.out.1, est.out]
      subst hcc
      have H4 := hide (H3.out.ref d4 m4)
      have K4 := hide (K3.out.ref d4 m4)
      have NS : ¬ (rfoot p.q gg ∨ gg = p.c) := fun e => e.elim (fun e => NG.out (.inr (.inl e))) (fun e => NG.out (.inr (.inr (.inr e))))
      have A4 : Hid (w4.heap[gg]? = some (.cells cur 5 (0, 0)) ∧ At w4 (some ⟨gg, 0, none⟩) (B ++ marks 1 12) ∧ At w4 bo B) := ⟨m4.kept.at A3.out.1 NS, at_off A3.out.2.1 m4.kept (fun a e _ => by cases e; exact NS), HS0.out.b.at_.grown H4.out.z.dev.disk.grown⟩
      have w4c := keep_r (p := p) m4 v4 NB.out
      have HSA : Hid (PxSame n size ⟨p.b, (wgo (full size a B.length) (pcn size a B.length) 0 p.s).2.2, k3, p.D, W3, p.c, (wgo (full size a B.length) (pcn size a B.length) 0 p.t).2.2, qq⟩) := by
        refine ⟨by show (wgo (full size a B.length) (pcn size a B.length) 0 p.s).2.2 = (wgo (full size a B.length) (pcn size a B.length) 0 p.t).2.2; rw [est.out], ?_, ?_⟩
        · show secs n size p.D = (rst qq).1
          rw [a4]; exact HB.out.same.rows
        · show abs W3 = (rst qq).2
          rw [a4, E3.out.2, HB.out.same.waits, est.out]
      have HLN : Hid (W3.length ≤ p.W.length + 9) := by
        have h1 := congrArg List.length E3.out.2
        have h2 := (wgo_cnt (full size a B.length) (pcn size a B.length) 0 p.s).2
        rw [List.length_append, pcs_length] at h1
        simp only [abs, List.length_map] at h1
        show _ ≤ _
        omega
      have HCN : Hid ((wgo (full size a B.length) (pcn size a B.length) 0 p.s).2.2.cnt ≤ p.s.cnt + 18) := by
        have := (wgo_cnt (full size a B.length) (pcn size a B.length) 0 p.s).1
        show _ ≤ _
        omega
      have NG4 : Hid (¬ (⟨p.b, (wgo (full size a B.length) (pcn size a B.length) 0 p.s).2.2, k3, p.D, W3, p.c, (wgo (full size a B.length) (pcn size a B.length) 0 p.t).2.2, qq⟩ : Px).all gg) := fun e => by
        rcases K4.out.mv.all gg e with e | e
        · exact NG.out e
        · have := A2.out.2.2.2; omega
      clear q1 q2 d4 m4 a4 v2 v4 NS
      go_wp2_with fail
      refine (kept_any gg cap2 bo B.length bc B w4 rfl x1 x2 A4.out.2.1 A4.out.2.2 (by have := HS0.out.b.size; simp only at this; omega)).mono ?_
      rintro e w5 ⟨rfl, g5⟩
      have R5 := hide ((g5.block _ (row_lt A4.out.1) (by simp)).trans A4.out.1)
      have G5 := hide g5
      clear g5
      go_wp2_with fail
      refine (over_any gg cap2 B.length w5 ⟨cur, R5.out, x7⟩ x1 x2 (by have := HS0.out.b.size; simp only at this; omega)).mono ?_
      rintro e w6 ⟨rfl, g6⟩
      have G6 := hide g6
      clear g6
      go_wp2
      go_ret
      exact ⟨rfl, _, x, (some o), HB.out.moved ((H4.out.new G5.out).row G6.out A2.out.2.2.1 NG4.out) HSA.out, HLN.out, HCN.out⟩
    · have hb : mcode (o.C * size) at_ B.length = 2 := by unfold mcode; rw [if_neg (by omega)]
      have HBAD := hide hb
      have hbs : B.length ≤ 9223372036854775807 := by have := BI.out.size; omega
      clear hb hm hall
      go_wp2_with fail
      refine (gWrite_bad HB2.out.px.dev HP2.out.r (by omega) at_ B.length cap2 _ hh1 hbs HBAD.out).mono ?_
      rintro e w3 ⟨rfl, g3⟩
      have v2 := g3.cell u2 (by simp)
      have v4 := g3.cell u4 (by simp)
      have G3 := hide g3
      clear g3 u0 u2 u4
      go_wp2_with fail
      refine (qWrite_bad (HB2.out.px.rd.then G3.out) (HP2.out.q.grown G3.out) (by omega) at_ B.length bc _ hh1 hbs HBAD.out).mono ?_
      rintro e w4 ⟨rfl, g4⟩
      have w4c := g4.cell v4 (by simp)
      have G4 := hide (grown_trans G3.out g4)
      have A4 : Hid (w4.heap[gg]? = some (.cells cur 5 (0, 0)) ∧ At w4 (some ⟨gg, 0, none⟩) (B ++ marks 1 12) ∧ At w4 bo B) := ⟨(G4.out.block _ (row_lt A2.out.1) (by simp)).trans A2.out.1, A2.out.2.1.grown G4.out, HS0.out.b.at_.grown (HB2.out.then G4.out).px.dev.disk.grown⟩
      clear g4 v2 v4
      go_wp2_with fail
      refine (kept_any gg cap2 bo B.length bc B w4 rfl x1 x2 A4.out.2.1 A4.out.2.2 (by have := HS0.out.b.size; simp only at this; omega)).mono ?_
      rintro e w5 ⟨rfl, g5⟩
      have R5 := hide ((g5.block _ (row_lt A4.out.1) (by simp)).trans A4.out.1)
      have G5 := hide g5
      clear g5
      go_wp2_with fail
      refine (over_any gg cap2 B.length w5 ⟨cur, R5.out, x7⟩ x1 x2 (by have := HS0.out.b.size; simp only at this; omega)).mono ?_
      rintro e w6 ⟨rfl, g6⟩
      have G6 := hide g6
      clear g6
      go_wp2
      go_ret
      exact ⟨rfl, p, x, (some o), HB.out.moved (((K0.out.new G4.out).new G5.out).row G6.out A2.out.2.2.1 NG.out) HB.out.same, by omega, by omega⟩
end
end Go.Proofs.Ytnonghacjfgnmaa
