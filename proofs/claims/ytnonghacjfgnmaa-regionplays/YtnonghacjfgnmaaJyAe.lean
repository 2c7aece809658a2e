/- Texts joined: Wo5. -/
import Derived.Test.YtnonghacjfgnmaaJyAd
/- A step of the script: what is read; power is asked for; nothing. -/
namespace Go.Proofs.Ytnonghacjfgnmaa
open Go.RowKit Ap
attribute [local go_sem ↓] Go.wp_at_zero Go.wp_at_succ

section
variable {w0 w : World} {n size g : Nat} {p : Px} {x y : Option Pl}
theorem PlAt.stay {w' : World} {p' : Px} {o : Pl} (h : PlAt w n p.b p.c o) (hp : PxAt w0 w n size p) (m : PxM w w' p p') : PlAt w' n p.b p.c o := by
  have := h.moved hp m
  rw [m.eb, m.ec] at this
  exact this
set_option maxRecDepth 20000 in
set_option maxHeartbeats 16000000 in
theorem play_read (h : St w0 w n size g p x y) (hn9 : n ≤ 9) (hW : p.W.length ≤ 5000) (hcn : p.s.cnt ≤ 9000) (ot : Bool) (at_ nn F C : Int) (B : List Nat) (fs : List (Int × Int)) (bo : Option Addr) (bc : Nat) (fo : Option Addr) (fc : Nat) (hs : SIn w0 ⟨1, ot, at_, nn, B, F, C, fs⟩ bo bc fo fc) (o : Pl) (hz : (if ot then y else x) = some o) :
    Calls Try.prog 21 #[.pointer (some ⟨g, 0, none⟩), .agg #[.int .i64 1, .bool ot, .int .i64 at_, .int .i64 nn, .slice bo B.length bc, .int .i64 F, .int .i64 C, .slice fo fs.length fc]] w fun e w' => Played w0 w' n size g p e := by
  have HS0 := hide hs
  have HW := hide (And.intro hW (And.intro hcn hn9))
  have HST := hide h
  clear hs hW hcn hn9 h
  cases ot with
  | false =>
    replace hz : x = some o := hz
    subst hz
    have g1 := World.grownBy_alloc w (.cells #[.int .i64 1, .bool false, .int .i64 at_, .int .i64 nn, .slice bo B.length bc, .int .i64 F, .int .i64 C, .slice fo fs.length fc] 59) none
    have r1 : (w.alloc (.cells #[.int .i64 1, .bool false, .int .i64 at_, .int .i64 nn, .slice bo B.length bc, .int .i64 F, .int .i64 C, .slice fo fs.length fc] 59)).heap[w.heap.size]? = some (.cells (ocells ⟨1, false, at_, nn, B, F, C, fs⟩ bo bc fo fc).toArray 59 (0, 0)) := heap_alloc_new w _
    have HS := hide (HST.out.then g1)
    have NB := hide (HS.out.px.away r1 (by decide) (by decide) (by decide) (by decide) (by decide) (by decide) (by decide) (by decide))
    have NA := hide HS.out.off
    have y0 : (w.alloc (.cells #[.int .i64 1, .bool false, .int .i64 at_, .int .i64 nn, .slice bo B.length bc, .int .i64 F, .int .i64 C, .slice fo fs.length fc] 59)).cell? ⟨w.heap.size, 0, none⟩ = some (.int .i64 1) := cell_row r1 0
    have y1 : (w.alloc (.cells #[.int .i64 1, .bool false, .int .i64 at_, .int .i64 nn, .slice bo B.length bc, .int .i64 F, .int .i64 C, .slice fo fs.length fc] 59)).cell? ⟨w.heap.size, 1, none⟩ = some (.bool false) := cell_row r1 1
    have y2 : (w.alloc (.cells #[.int .i64 1, .bool false, .int .i64 at_, .int .i64 nn, .slice bo B.length bc, .int .i64 F, .int .i64 C, .slice fo fs.length fc] 59)).cell? ⟨w.heap.size, 2, none⟩ = some (.int .i64 at_) := cell_row r1 2
    have y3 : (w.alloc (.cells #[.int .i64 1, .bool false, .int .i64 at_, .int .i64 nn, .slice bo B.length bc, .int .i64 F, .int .i64 C, .slice fo fs.length fc] 59)).cell? ⟨w.heap.size, 3, none⟩ = some (.int .i64 nn) := cell_row r1 3
    have y4 : (w.alloc (.cells #[.int .i64 1, .bool false, .int .i64 at_, .int .i64 nn, .slice bo B.length bc, .int .i64 F, .int .i64 C, .slice fo fs.length fc] 59)).cell? ⟨w.heap.size, 4, none⟩ = some (.slice bo B.length bc) := cell_row r1 4
    have y5 : (w.alloc (.cells #[.int .i64 1, .bool false, .int .i64 at_, .int .i64 nn, .slice bo B.length bc, .int .i64 F, .int .i64 C, .slice fo fs.length fc] 59)).cell? ⟨w.heap.size, 5, none⟩ = some (.int .i64 F) := cell_row r1 5
    have y6 : (w.alloc (.cells #[.int .i64 1, .bool false, .int .i64 at_, .int .i64 nn, .slice bo B.length bc, .int .i64 F, .int .i64 C, .slice fo fs.length fc] 59)).cell? ⟨w.heap.size, 6, none⟩ = some (.int .i64 C) := cell_row r1 6
    have y7 : (w.alloc (.cells #[.int .i64 1, .bool false, .int .i64 at_, .int .i64 nn, .slice bo B.length bc, .int .i64 F, .int .i64 C, .slice fo fs.length fc] 59)).cell? ⟨w.heap.size, 7, none⟩ = some (.slice fo fs.length fc) := cell_row r1 7
    have c0 := HS.out.c0
    have c1 := HS.out.c1
    have ca := HS.out.c2
    have cb := HS.out.c4
    simp only [rV] at ca
    simp only [qV] at cb
    clear g1 r1
    go_enter Try.func21, Try.ntmps21
    go_wp2_with fail
    generalize w.alloc (.cells #[.int .i64 1, .bool false, .int .i64 at_, .int .i64 nn, .slice bo B.length bc, .int .i64 F, .int .i64 C, .slice fo fs.length fc] 59) = wa at *
    generalize w.heap.size = B1 at *
    go_quiet (fail)
    have HB := hide (HS.out.then (grown_drewN wa nq none))
    have y0 : (wa.drewN nq).cell? ⟨B1, 0, none⟩ = some (.int .i64 1) := y0
    have y2 : (wa.drewN nq).cell? ⟨B1, 2, none⟩ = some (.int .i64 at_) := y2
    have y3 : (wa.drewN nq).cell? ⟨B1, 3, none⟩ = some (.int .i64 nn) := y3
    have y4 : (wa.drewN nq).cell? ⟨B1, 4, none⟩ = some (.slice bo B.length bc) := y4
    have y5 : (wa.drewN nq).cell? ⟨B1, 5, none⟩ = some (.int .i64 F) := y5
    have y6 : (wa.drewN nq).cell? ⟨B1, 6, none⟩ = some (.int .i64 C) := y6
    have y7 : (wa.drewN nq).cell? ⟨B1, 7, none⟩ = some (.slice fo fs.length fc) := y7
    have c0 := HB.out.c0
    have c1 := HB.out.c1
    clear ca cb y1 HS
    generalize wa.drewN nq = wb at *
    have HP := hide (HB.out.fst o rfl)
    have est := hide HB.out.same.st
    have hV : p.q.V.length ≤ 5000 := by have := HB.out.same.len; have := HW.out.1; omega
    have ht : p.t.cnt ≤ 9000 := by rw [← est.out]; exact HW.out.2.1
    have HSH : Hid (∀ i, i < n → rrbytes n (rst p.q) (i : Int) = secOf size (now size p.D (abs p.W)) i) := fun i hi => same_shows HB.out.same HB.out.px.dev.disk.disk i hi
    have hC9 : o.C ≤ 9 := by have := HP.out.fit; have := HW.out.2.2; omega
    have s0 : 0 < size := by have := HB.out.px.dev.disk.disk.shape.s0; omega
    have s1 := HB.out.px.dev.disk.disk.shape.s1
    have hall : o.C * size ≤ 9 * 4096 := Nat.mul_le_mul hC9 s1
    have hh1 := HS0.out.h1
    simp only at hh1
    by_cases hm : 0 ≤ at_ ∧ 0 ≤ nn ∧ nn ≤ ((o.C * size : Nat) : Int) - at_
    · obtain ⟨hm1, hm2, hm3⟩ := hm
      obtain ⟨a, rfl⟩ := Int.eq_ofNat_of_zero_le hm1
      obtain ⟨m, rfl⟩ := Int.eq_ofNat_of_zero_le hm2
      have hfit : a + m ≤ o.C * size := by omega
      have hpc := pcn_cnt s0 hfit
      have HFIT := hide hfit
      have hmm : m ≤ 36864 := by omega
      clear hfit hall hm1 hm2 hm3
      go_wp2_with fail
      refine (gRead_at HB.out.px.dev HP.out.r HP.out.fit a m HFIT.out (by have := HW.out.2.1; omega)).mono ?_
      rintro e w2 ⟨v, c, rfl, hx⟩
      have m2 : DvM wb w2 p.b p.k p.k p.W p.W := ⟨rfl, fun _ e => .inl e, fun x hx => .inl ⟨x, hx, rfl⟩, hx.kept⟩
      have H2 := hide ((PxW.refl HB.out.px).dev hx.dev m2)
      have u2 := keep_d (p := p) m2 y2 NB.out
      have u3 := keep_d (p := p) m2 y3 NB.out
      have HX := hide hx
      have HP2 : Hid (PlAt w2 n p.b p.c o) := HP.out.stay HB.out.px H2.out.mv
      clear y0 y2 y3 y4 y5 y6 y7 c0 c1 m2 hx
      go_wp2_with fail
      refine (qRead_at H2.out.z.rd HP2.out.q (by show p.q.V.length ≤ _; omega) HP.out.fit a m HFIT.out (by show p.t.cnt + _ ≤ _; omega) (now size p.D (abs p.W)) (now_len HB.out.px.dev.disk.disk.len HB.out.px.dev.disk.disk.fitsW) HSH.out).mono ?_
      rintro e w3 ⟨v', c', rfl, q1, q2, q3, q4, q5, q6⟩
      have hcc : c' = c := by rw [q1, HX.out.code, est.out]
      subst hcc
      have H3 := hide (H2.out.ref q2 q3)
      have HSA : Hid (PxSame n size ⟨p.b, (rgo (pcn size a m) p.s).2, p.k, p.D, p.W, p.c, (rgo (pcn size a m) p.t).2, p.q⟩) := ⟨by show (rgo (pcn size a m) p.s).2 = (rgo (pcn size a m) p.t).2; rw [est.out], HB.out.same.rows, HB.out.same.waits⟩
      have HCN : Hid ((rgo (pcn size a m) p.s).2.cnt ≤ p.s.cnt + 18) := by have := rgo_cnt (pcn size a m) p.s; show _ ≤ _; omega
      have HSB : Hid (Calls Try.prog 32 #[v, v'] w3 fun e w' => e = .returned (.bool true) ∧ ∃ q, w' = w3.drewN q) := by
        by_cases hc0 : c' = 0
        · obtain ⟨gg, rfl, l1, l2, l3⟩ := HX.out.ok hc0
          obtain ⟨ao, cap, rfl, z1, z2, z3, z4, z5, z6⟩ := own_at (q5 hc0)
          refine sameBytes_eq _ _ m m cap _ w3 l3 (at_row (q3.kept.at l2 ?_)) z4 (by omega)
          rintro (e | e)
          · have := HB.out.px.lt gg (.inr (.inl e)); omega
          · have e : gg = p.c := e
            have := HB.out.px.lt gg (.inr (.inr (.inr e))); omega
        · have e1 := HX.out.no hc0
          have e2 := q6 hc0
          subst e1 e2
          exact sameBytes_eq none none 0 0 0 [] w3 rfl (At.nil _ _) (At.nil _ _) (by omega)
      clear q1 q2 q3 q4 q5 q6 u2 u3
      go_wp2_with fail
      refine HSB.out.mono ?_
      rintro e w4 ⟨rfl, qd, rfl⟩
      go_wp2
      go_ret
      exact ⟨rfl, _, (some o), y, HB.out.moved (H3.out.new (grown_drewN w3 qd none)) HSA.out, by show p.W.length ≤ _; omega, HCN.out⟩
    · have hb : mcode (o.C * size) at_ nn = 2 := by unfold mcode; rw [if_neg hm]
      have HBAD := hide hb
      clear hb hm hall
      go_wp2_with fail
      refine (gRead_bad HB.out.px.dev HP.out.r (by omega) at_ nn hh1 HBAD.out).mono ?_
      rintro e w2 ⟨rfl, g2⟩
      have G2 := hide g2
      have u2 := g2.cell y2 (by simp)
      have u3 := g2.cell y3 (by simp)
      clear y0 y2 y3 y4 y5 y6 y7 c0 c1 g2
      go_wp2_with fail
      refine (qRead_bad (HB.out.px.rd.then G2.out) (HP.out.q.grown G2.out) (by omega) at_ nn hh1 HBAD.out).mono ?_
      rintro e w3 ⟨rfl, g3⟩
      have G3 := hide (grown_trans G2.out g3)
      clear g3 u2 u3
      go_wp2_with fail
      refine (sameBytes_eq none none 0 0 0 [] w3 rfl (At.nil _ _) (At.nil _ _) (by omega)).mono ?_
      rintro e w4 ⟨rfl, qd, rfl⟩
      go_wp2
      go_ret
      exact ⟨rfl, p, (some o), y, HB.out.then (grown_trans G3.out (grown_drewN w3 qd none)), by omega, by omega⟩
  | true =>
    replace hz : y = some o := hz
    subst hz
    have g1 := World.grownBy_alloc w (.cells #[.int .i64 1, .bool true, .int .i64 at_, .int .i64 nn, .slice bo B.length bc, .int .i64 F, .int .i64 C, .slice fo fs.length fc] 59) none
    have r1 : (w.alloc (.cells #[.int .i64 1, .bool true, .int .i64 at_, .int .i64 nn, .slice bo B.length bc, .int .i64 F, .int .i64 C, .slice fo fs.length fc] 59)).heap[w.heap.size]? = some (.cells (ocells ⟨1, true, at_, nn, B, F, C, fs⟩ bo bc fo fc).toArray 59 (0, 0)) := heap_alloc_new w _
    have HS := hide (HST.out.then g1)
    have NB := hide (HS.out.px.away r1 (by decide) (by decide) (by decide) (by decide) (by decide) (by decide) (by decide) (by decide))
    have NA := hide HS.out.off
    have y0 : (w.alloc (.cells #[.int .i64 1, .bool true, .int .i64 at_, .int .i64 nn, .slice bo B.length bc, .int .i64 F, .int .i64 C, .slice fo fs.length fc] 59)).cell? ⟨w.heap.size, 0, none⟩ = some (.int .i64 1) := cell_row r1 0
    have y1 : (w.alloc (.cells #[.int .i64 1, .bool true, .int .i64 at_, .int .i64 nn, .slice bo B.length bc, .int .i64 F, .int .i64 C, .slice fo fs.length fc] 59)).cell? ⟨w.heap.size, 1, none⟩ = some (.bool true) := cell_row r1 1
    have y2 : (w.alloc (.cells #[.int .i64 1, .bool true, .int .i64 at_, .int .i64 nn, .slice bo B.length bc, .int .i64 F, .int .i64 C, .slice fo fs.length fc] 59)).cell? ⟨w.heap.size, 2, none⟩ = some (.int .i64 at_) := cell_row r1 2
    have y3 : (w.alloc (.cells #[.int .i64 1, .bool true, .int .i64 at_, .int .i64 nn, .slice bo B.length bc, .int .i64 F, .int .i64 C, .slice fo fs.length fc] 59)).cell? ⟨w.heap.size, 3, none⟩ = some (.int .i64 nn) := cell_row r1 3
    have y4 : (w.alloc (.cells #[.int .i64 1, .bool true, .int .i64 at_, .int .i64 nn, .slice bo B.length bc, .int .i64 F, .int .i64 C, .slice fo fs.length fc] 59)).cell? ⟨w.heap.size, 4, none⟩ = some (.slice bo B.length bc) := cell_row r1 4
    have y5 : (w.alloc (.cells #[.int .i64 1, .bool true, .int .i64 at_, .int .i64 nn, .slice bo B.length bc, .int .i64 F, .int .i64 C, .slice fo fs.length fc] 59)).cell? ⟨w.heap.size, 5, none⟩ = some (.int .i64 F) := cell_row r1 5
    have y6 : (w.alloc (.cells #[.int .i64 1, .bool true, .int .i64 at_, .int .i64 nn, .slice bo B.length bc, .int .i64 F, .int .i64 C, .slice fo fs.length fc] 59)).cell? ⟨w.heap.size, 6, none⟩ = some (.int .i64 C) := cell_row r1 6
    have y7 : (w.alloc (.cells #[.int .i64 1, .bool true, .int .i64 at_, .int .i64 nn, .slice bo B.length bc, .int .i64 F, .int .i64 C, .slice fo fs.length fc] 59)).cell? ⟨w.heap.size, 7, none⟩ = some (.slice fo fs.length fc) := cell_row r1 7
    have c0 := HS.out.c0
    have c1 := HS.out.c1
    have ca := HS.out.c3
    have cb := HS.out.c5
    simp only [rV] at ca
    simp only [qV] at cb
    clear g1 r1
    go_enter Try.func21, Try.ntmps21
    go_wp2_with fail
    generalize w.alloc (.cells #[.int .i64 1, .bool true, .int .i64 at_, .int .i64 nn, .slice bo B.length bc, .int .i64 F, .int .i64 C, .slice fo fs.length fc] 59) = wa at *
    generalize w.heap.size = B1 at *
    go_quiet (fail)
    have HB := hide (HS.out.then (grown_drewN wa nq none))
    have y0 : (wa.drewN nq).cell? ⟨B1, 0, none⟩ = some (.int .i64 1) := y0
    have y2 : (wa.drewN nq).cell? ⟨B1, 2, none⟩ = some (.int .i64 at_) := y2
    have y3 : (wa.drewN nq).cell? ⟨B1, 3, none⟩ = some (.int .i64 nn) := y3
    have y4 : (wa.drewN nq).cell? ⟨B1, 4, none⟩ = some (.slice bo B.length bc) := y4
    have y5 : (wa.drewN nq).cell? ⟨B1, 5, none⟩ = some (.int .i64 F) := y5
    have y6 : (wa.drewN nq).cell? ⟨B1, 6, none⟩ = some (.int .i64 C) := y6
    have y7 : (wa.drewN nq).cell? ⟨B1, 7, none⟩ = some (.slice fo fs.length fc) := y7
    have c0 := HB.out.c0
    have c1 := HB.out.c1
    clear ca cb y1 HS
    generalize wa.drewN nq = wb at *
    have HP := hide (HB.out.snd o rfl)
    have est := hide HB.out.same.st
    have hV : p.q.V.length ≤ 5000 := by have := HB.out.same.len; have := HW.out.1; omega
    have ht : p.t.cnt ≤ 9000 := by rw [← est.out]; exact HW.out.2.1
    have HSH : Hid (∀ i, i < n → rrbytes n (rst p.q) (i : Int) = secOf size (now size p.D (abs p.W)) i) := fun i hi => same_shows HB.out.same HB.out.px.dev.disk.disk i hi
    have hC9 : o.C ≤ 9 := by have := HP.out.fit; have := HW.out.2.2; omega
    have s0 : 0 < size := by have := HB.out.px.dev.disk.disk.shape.s0; omega
    have s1 := HB.out.px.dev.disk.disk.shape.s1
    have hall : o.C * size ≤ 9 * 4096 := Nat.mul_le_mul hC9 s1
    have hh1 := HS0.out.h1
    simp only at hh1
    by_cases hm : 0 ≤ at_ ∧ 0 ≤ nn ∧ nn ≤ ((o.C * size : Nat) : Int) - at_
    · obtain ⟨hm1, hm2, hm3⟩ := hm
      obtain ⟨a, rfl⟩ := Int.eq_ofNat_of_zero_le hm1
      obtain ⟨m, rfl⟩ := Int.eq_ofNat_of_zero_le hm2
      have hfit : a + m ≤ o.C * size := by omega
      have hpc := pcn_cnt s0 hfit
      have HFIT := hide hfit
      have hmm : m ≤ 36864 := by omega
      clear hfit hall hm1 hm2 hm3
      go_wp2_with fail
      refine (gRead_at HB.out.px.dev HP.out.r HP.out.fit a m HFIT.out (by have := HW.out.2.1; omega)).mono ?_
      rintro e w2 ⟨v, c, rfl, hx⟩
      have m2 : DvM wb w2 p.b p.k p.k p.W p.W := ⟨rfl, fun _ e => .inl e, fun x hx => .inl ⟨x, hx, rfl⟩, hx.kept⟩
      have H2 := hide ((PxW.refl HB.out.px).dev hx.dev m2)
      have u2 := keep_d (p := p) m2 y2 NB.out
      have u3 := keep_d (p := p) m2 y3 NB.out
      have HX := hide hx
      have HP2 : Hid (PlAt w2 n p.b p.c o) := HP.out.stay HB.out.px H2.out.mv
      clear y0 y2 y3 y4 y5 y6 y7 c0 c1 m2 hx
      go_wp2_with fail
      refine (qRead_at H2.out.z.rd HP2.out.q (by show p.q.V.length ≤ _; omega) HP.out.fit a m HFIT.out (by show p.t.cnt + _ ≤ _; omega) (now size p.D (abs p.W)) (now_len HB.out.px.dev.disk.disk.len HB.out.px.dev.disk.disk.fitsW) HSH.out).mono ?_
      rintro e w3 ⟨v', c', rfl, q1, q2, q3, q4, q5, q6⟩
      have hcc : c' = c := by rw [q1, HX.out.code, est.out]
      subst hcc
      have H3 := hide (H2.out.ref q2 q3)
      have HSA : Hid (PxSame n size ⟨p.b, (rgo (pcn size a m) p.s).2, p.k, p.D, p.W, p.c, (rgo (pcn size a m) p.t).2, p.q⟩) := ⟨by show (rgo (pcn size a m) p.s).2 = (rgo (pcn size a m) p.t).2; rw [est.out], HB.out.same.rows, HB.out.same.waits⟩
      have HCN : Hid ((rgo (pcn size a m) p.s).2.cnt ≤ p.s.cnt + 18) := by have := rgo_cnt (pcn size a m) p.s; show _ ≤ _; omega
      have HSB : Hid (Calls Try.prog 32 #[v, v'] w3 fun e w' => e = .returned (.bool true) ∧ ∃ q, w' = w3.drewN q) := by
        by_cases hc0 : c' = 0
        · obtain ⟨gg, rfl, l1, l2, l3⟩ := HX.out.ok hc0
          obtain ⟨ao, cap, rfl, z1, z2, z3, z4, z5, z6⟩ := own_at (q5 hc0)
          refine sameBytes_eq _ _ m m cap _ w3 l3 (at_row (q3.kept.at l2 ?_)) z4 (by omega)
          rintro (e | e)
          · have := HB.out.px.lt gg (.inr (.inl e)); omega
          · have e : gg = p.c := e
            have := HB.out.px.lt gg (.inr (.inr (.inr e))); omega
        · have e1 := HX.out.no hc0
          have e2 := q6 hc0
          subst e1 e2
          exact sameBytes_eq none none 0 0 0 [] w3 rfl (At.nil _ _) (At.nil _ _) (by omega)
      clear q1 q2 q3 q4 q5 q6 u2 u3
      go_wp2_with fail
      refine HSB.out.mono ?_
      rintro e w4 ⟨rfl, qd, rfl⟩
      go_wp2
      go_ret
      exact ⟨rfl, _, x, (some o), HB.out.moved (H3.out.new (grown_drewN w3 qd none)) HSA.out, by show p.W.length ≤ _; omega, HCN.out⟩
    · have hb : mcode (o.C * size) at_ nn = 2 := by unfold mcode; rw [if_neg hm]
      have HBAD := hide hb
      clear hb hm hall
      go_wp2_with fail
      refine (gRead_bad HB.out.px.dev HP.out.r (by omega) at_ nn hh1 HBAD.out).mono ?_
      rintro e w2 ⟨rfl, g2⟩
      have G2 := hide g2
      have u2 := g2.cell y2 (by simp)
      have u3 := g2.cell y3 (by simp)
      clear y0 y2 y3 y4 y5 y6 y7 c0 c1 g2
      go_wp2_with fail
      refine (qRead_bad (HB.out.px.rd.then G2.out) (HP.out.q.grown G2.out) (by omega) at_ nn hh1 HBAD.out).mono ?_
      rintro e w3 ⟨rfl, g3⟩
      have G3 := hide (grown_trans G2.out g3)
      clear g3 u2 u3
      go_wp2_with fail
      refine (sameBytes_eq none none 0 0 0 [] w3 rfl (At.nil _ _) (At.nil _ _) (by omega)).mono ?_
      rintro e w4 ⟨rfl, qd, rfl⟩
      go_wp2
      go_ret
      exact ⟨rfl, p, x, (some o), HB.out.then (grown_trans G3.out (grown_drewN w3 qd none)), by omega, by omega⟩
set_option maxRecDepth 20000 in
set_option maxHeartbeats 16000000 in
theorem play_sync (h : St w0 w n size g p x y) (hn9 : n ≤ 9) (hW : p.W.length ≤ 5000) (hcn : p.s.cnt ≤ 9000) (ot : Bool) (at_ nn F C : Int) (B : List Nat) (fs : List (Int × Int)) (bo : Option Addr) (bc : Nat) (fo : Option Addr) (fc : Nat) (hs : SIn w0 ⟨3, ot, at_, nn, B, F, C, fs⟩ bo bc fo fc) (o : Pl) (hz : (if ot then y else x) = some o) :
    Calls Try.prog 21 #[.pointer (some ⟨g, 0, none⟩), .agg #[.int .i64 3, .bool ot, .int .i64 at_, .int .i64 nn, .slice bo B.length bc, .int .i64 F, .int .i64 C, .slice fo fs.length fc]] w fun e w' => Played w0 w' n size g p e := by
  have HS0 := hide hs
  have HW := hide (And.intro hW (And.intro hcn hn9))
  have HST := hide h
  clear hs hW hcn hn9 h
  cases ot with
  | false =>
    replace hz : x = some o := hz
    subst hz
    have g1 := World.grownBy_alloc w (.cells #[.int .i64 3, .bool false, .int .i64 at_, .int .i64 nn, .slice bo B.length bc, .int .i64 F, .int .i64 C, .slice fo fs.length fc] 59) none
    have r1 : (w.alloc (.cells #[.int .i64 3, .bool false, .int .i64 at_, .int .i64 nn, .slice bo B.length bc, .int .i64 F, .int .i64 C, .slice fo fs.length fc] 59)).heap[w.heap.size]? = some (.cells (ocells ⟨3, false, at_, nn, B, F, C, fs⟩ bo bc fo fc).toArray 59 (0, 0)) := heap_alloc_new w _
    have HS := hide (HST.out.then g1)
    have NB := hide (HS.out.px.away r1 (by decide) (by decide) (by decide) (by decide) (by decide) (by decide) (by decide) (by decide))
    have NA := hide HS.out.off
    have y0 : (w.alloc (.cells #[.int .i64 3, .bool false, .int .i64 at_, .int .i64 nn, .slice bo B.length bc, .int .i64 F, .int .i64 C, .slice fo fs.length fc] 59)).cell? ⟨w.heap.size, 0, none⟩ = some (.int .i64 3) := cell_row r1 0
    have y1 : (w.alloc (.cells #[.int .i64 3, .bool false, .int .i64 at_, .int .i64 nn, .slice bo B.length bc, .int .i64 F, .int .i64 C, .slice fo fs.length fc] 59)).cell? ⟨w.heap.size, 1, none⟩ = some (.bool false) := cell_row r1 1
    have y2 : (w.alloc (.cells #[.int .i64 3, .bool false, .int .i64 at_, .int .i64 nn, .slice bo B.length bc, .int .i64 F, .int .i64 C, .slice fo fs.length fc] 59)).cell? ⟨w.heap.size, 2, none⟩ = some (.int .i64 at_) := cell_row r1 2
    have y3 : (w.alloc (.cells #[.int .i64 3, .bool false, .int .i64 at_, .int .i64 nn, .slice bo B.length bc, .int .i64 F, .int .i64 C, .slice fo fs.length fc] 59)).cell? ⟨w.heap.size, 3, none⟩ = some (.int .i64 nn) := cell_row r1 3
    have y4 : (w.alloc (.cells #[.int .i64 3, .bool false, .int .i64 at_, .int .i64 nn, .slice bo B.length bc, .int .i64 F, .int .i64 C, .slice fo fs.length fc] 59)).cell? ⟨w.heap.size, 4, none⟩ = some (.slice bo B.length bc) := cell_row r1 4
    have y5 : (w.alloc (.cells #[.int .i64 3, .bool false, .int .i64 at_, .int .i64 nn, .slice bo B.length bc, .int .i64 F, .int .i64 C, .slice fo fs.length fc] 59)).cell? ⟨w.heap.size, 5, none⟩ = some (.int .i64 F) := cell_row r1 5
    have y6 : (w.alloc (.cells #[.int .i64 3, .bool false, .int .i64 at_, .int .i64 nn, .slice bo B.length bc, .int .i64 F, .int .i64 C, .slice fo fs.length fc] 59)).cell? ⟨w.heap.size, 6, none⟩ = some (.int .i64 C) := cell_row r1 6
    have y7 : (w.alloc (.cells #[.int .i64 3, .bool false, .int .i64 at_, .int .i64 nn, .slice bo B.length bc, .int .i64 F, .int .i64 C, .slice fo fs.length fc] 59)).cell? ⟨w.heap.size, 7, none⟩ = some (.slice fo fs.length fc) := cell_row r1 7
    have c0 := HS.out.c0
    have c1 := HS.out.c1
    have ca := HS.out.c2
    have cb := HS.out.c4
    simp only [rV] at ca
    simp only [qV] at cb
    clear g1 r1
    go_enter Try.func21, Try.ntmps21
    go_wp2_with fail
    generalize w.alloc (.cells #[.int .i64 3, .bool false, .int .i64 at_, .int .i64 nn, .slice bo B.length bc, .int .i64 F, .int .i64 C, .slice fo fs.length fc] 59) = wa at *
    generalize w.heap.size = B1 at *
    go_quiet (fail)
    have HB := hide (HS.out.then (grown_drewN wa nq none))
    have y0 : (wa.drewN nq).cell? ⟨B1, 0, none⟩ = some (.int .i64 3) := y0
    have y2 : (wa.drewN nq).cell? ⟨B1, 2, none⟩ = some (.int .i64 at_) := y2
    have y3 : (wa.drewN nq).cell? ⟨B1, 3, none⟩ = some (.int .i64 nn) := y3
    have y4 : (wa.drewN nq).cell? ⟨B1, 4, none⟩ = some (.slice bo B.length bc) := y4
    have y5 : (wa.drewN nq).cell? ⟨B1, 5, none⟩ = some (.int .i64 F) := y5
    have y6 : (wa.drewN nq).cell? ⟨B1, 6, none⟩ = some (.int .i64 C) := y6
    have y7 : (wa.drewN nq).cell? ⟨B1, 7, none⟩ = some (.slice fo fs.length fc) := y7
    have c0 := HB.out.c0
    have c1 := HB.out.c1
    clear ca cb y1 HS
    generalize wa.drewN nq = wb at *
    have HP := hide (HB.out.fst o rfl)
    have est := hide HB.out.same.st
    have hV : p.q.V.length ≤ 5000 := by have := HB.out.same.len; have := HW.out.1; omega
    have ht : p.t.cnt ≤ 9000 := by rw [← est.out]; exact HW.out.2.1
    have HSH : Hid (∀ i, i < n → rrbytes n (rst p.q) (i : Int) = secOf size (now size p.D (abs p.W)) i) := fun i hi => same_shows HB.out.same HB.out.px.dev.disk.disk i hi
    have hC9 : o.C ≤ 9 := by have := HP.out.fit; have := HW.out.2.2; omega
    go_wp2_with fail
    refine (gSync_at HB.out.px.dev HP.out.r (by have := HW.out.2.1; omega)).mono ?_
    rintro e w2 ⟨rfl, k2, D2, W2, d2, m2, a2, l2⟩
    have H2 := hide ((PxW.refl HB.out.px).dev d2 m2)
    have HP2 : Hid (PlAt w2 n p.b p.c o) := HP.out.stay HB.out.px H2.out.mv
    have E2 := hide (And.intro a2 l2)
    clear d2 m2 a2 l2 y0 y2 y3 y4 y5 y6 y7 c0 c1
    go_wp2_with fail
    refine (qsync_at H2.out.z.rd HP2.out.q (by show p.q.V.length ≤ _; omega) (by show p.t.cnt < _; omega)).mono ?_
    rintro e w3 ⟨rfl, q3, d3, m3, a3⟩
    have H3 := hide (H2.out.ref d3 m3)
    have E3 := hide a3
    clear d3 m3 a3
    go_wp2
    go_ret
    refine ⟨?_, _, (some o), y, HB.out.moved H3.out (same_sync HB.out.same HB.out.px.dev.disk.disk E2.out.1 E3.out), by have := E2.out.2; show W2.length ≤ _; omega, by have := p.s.next_cnt; show p.s.next.cnt ≤ _; omega⟩
    rw [est.out]; simp
  | true =>
    replace hz : y = some o := hz
    subst hz
    have g1 := World.grownBy_alloc w (.cells #[.int .i64 3, .bool true, .int .i64 at_, .int .i64 nn, .slice bo B.length bc, .int .i64 F, .int .i64 C, .slice fo fs.length fc] 59) none
    have r1 : (w.alloc (.cells #[.int .i64 3, .bool true, .int .i64 at_, .int .i64 nn, .slice bo B.length bc, .int .i64 F, .int .i64 C, .slice fo fs.length fc] 59)).heap[w.heap.size]? = some (.cells (ocells ⟨3, true, at_, nn, B, F, C, fs⟩ bo bc fo fc).toArray 59 (0, 0)) := heap_alloc_new w _
    have HS := hide (HST.out.then g1)
    have NB := hide (HS.out.px.away r1 (by decide) (by decide) (by decide) (by decide) (by decide) (by decide) (by decide) (by decide))
    have NA := hide HS.out.off
    have y0 : (w.alloc (.cells #[.int .i64 3, .bool true, .int .i64 at_, .int .i64 nn, .slice bo B.length bc, .int .i64 F, .int .i64 C, .slice fo fs.length fc] 59)).cell? ⟨w.heap.size, 0, none⟩ = some (.int .i64 3) := cell_row r1 0
    have y1 : (w.alloc (.cells #[.int .i64 3, .bool true, .int .i64 at_, .int .i64 nn, .slice bo B.length bc, .int .i64 F, .int .i64 C, .slice fo fs.length fc] 59)).cell? ⟨w.heap.size, 1, none⟩ = some (.bool true) := cell_row r1 1
    have y2 : (w.alloc (.cells #[.int .i64 3, .bool true, .int .i64 at_, .int .i64 nn, .slice bo B.length bc, .int .i64 F, .int .i64 C, .slice fo fs.length fc] 59)).cell? ⟨w.heap.size, 2, none⟩ = some (.int .i64 at_) := cell_row r1 2
    have y3 : (w.alloc (.cells #[.int .i64 3, .bool true, .int .i64 at_, .int .i64 nn, .slice bo B.length bc, .int .i64 F, .int .i64 C, .slice fo fs.length fc] 59)).cell? ⟨w.heap.size, 3, none⟩ = some (.int .i64 nn) := cell_row r1 3
    have y4 : (w.alloc (.cells #[.int .i64 3, .bool true, .int .i64 at_, .int .i64 nn, .slice bo B.length bc, .int .i64 F, .int .i64 C, .slice fo fs.length fc] 59)).cell? ⟨w.heap.size, 4, none⟩ = some (.slice bo B.length bc) := cell_row r1 4
    have y5 : (w.alloc (.cells #[.int .i64 3, .bool true, .int .i64 at_, .int .i64 nn, .slice bo B.length bc, .int .i64 F, .int .i64 C, .slice fo fs.length fc] 59)).cell? ⟨w.heap.size, 5, none⟩ = some (.int .i64 F) := cell_row r1 5
    have y6 : (w.alloc (.cells #[.int .i64 3, .bool true, .int .i64 at_, .int .i64 nn, .slice bo B.length bc, .int .i64 F, .int .i64 C, .slice fo fs.length fc] 59)).cell? ⟨w.heap.size, 6, none⟩ = some (.int .i64 C) := cell_row r1 6
    have y7 : (w.alloc (.cells #[.int .i64 3, .bool true, .int .i64 at_, .int .i64 nn, .slice bo B.length bc, .int .i64 F, .int .i64 C, .slice fo fs.length fc] 59)).cell? ⟨w.heap.size, 7, none⟩ = some (.slice fo fs.length fc) := cell_row r1 7
    have c0 := HS.out.c0
    have c1 := HS.out.c1
    have ca := HS.out.c3
    have cb := HS.out.c5
    simp only [rV] at ca
    simp only [qV] at cb
    clear g1 r1
    go_enter Try.func21, Try.ntmps21
    go_wp2_with fail
    generalize w.alloc (.cells #[.int .i64 3, .bool true, .int .i64 at_, .int .i64 nn, .slice bo B.length bc, .int .i64 F, .int .i64 C, .slice fo fs.length fc] 59) = wa at *
    generalize w.heap.size = B1 at *
    go_quiet (fail)
    have HB := hide (HS.out.then (grown_drewN wa nq none))
    have y0 : (wa.drewN nq).cell? ⟨B1, 0, none⟩ = some (.int .i64 3) := y0
    have y2 : (wa.drewN nq).cell? ⟨B1, 2, none⟩ = some (.int .i64 at_) := y2
    have y3 : (wa.drewN nq).cell? ⟨B1, 3, none⟩ = some (.int .i64 nn) := y3
    have y4 : (wa.drewN nq).cell? ⟨B1, 4, none⟩ = some (.slice bo B.length bc) := y4
    have y5 : (wa.drewN nq).cell? ⟨B1, 5, none⟩ = some (.int .i64 F) := y5
    have y6 : (wa.drewN nq).cell? ⟨B1, 6, none⟩ = some (.int .i64 C) := y6
    have y7 : (wa.drewN nq).cell? ⟨B1, 7, none⟩ = some (.slice fo fs.length fc) := y7
    have c0 := HB.out.c0
    have c1 := HB.out.c1
    clear ca cb y1 HS
    generalize wa.drewN nq = wb at *
    have HP := hide (HB.out.snd o rfl)
    have est := hide HB.out.same.st
    have hV : p.q.V.length ≤ 5000 := by have := HB.out.same.len; have := HW.out.1; omega
    have ht : p.t.cnt ≤ 9000 := by rw [← est.out]; exact HW.out.2.1
    have HSH : Hid (∀ i, i < n → rrbytes n (rst p.q) (i : Int) = secOf size (now size p.D (abs p.W)) i) := fun i hi => same_shows HB.out.same HB.out.px.dev.disk.disk i hi
    have hC9 : o.C ≤ 9 := by have := HP.out.fit; have := HW.out.2.2; omega
    go_wp2_with fail
    refine (gSync_at HB.out.px.dev HP.out.r (by have := HW.out.2.1; omega)).mono ?_
    rintro e w2 ⟨rfl, k2, D2, W2, d2, m2, a2, l2⟩
    have H2 := hide ((PxW.refl HB.out.px).dev d2 m2)
    have HP2 : Hid (PlAt w2 n p.b p.c o) := HP.out.stay HB.out.px H2.out.mv
    have E2 := hide (And.intro a2 l2)
    clear d2 m2 a2 l2 y0 y2 y3 y4 y5 y6 y7 c0 c1
    go_wp2_with fail
    refine (qsync_at H2.out.z.rd HP2.out.q (by show p.q.V.length ≤ _; omega) (by show p.t.cnt < _; omega)).mono ?_
    rintro e w3 ⟨rfl, q3, d3, m3, a3⟩
    have H3 := hide (H2.out.ref d3 m3)
    have E3 := hide a3
    clear d3 m3 a3
    go_wp2
    go_ret
    refine ⟨?_, _, x, (some o), HB.out.moved H3.out (same_sync HB.out.same HB.out.px.dev.disk.disk E2.out.1 E3.out), by have := E2.out.2; show W2.length ≤ _; omega, by have := p.s.next_cnt; show p.s.next.cnt ≤ _; omega⟩
    rw [est.out]; simp
set_option maxRecDepth 20000 in
set_option maxHeartbeats 16000000 in
theorem play_nil (h : St w0 w n size g p x y) (hn9 : n ≤ 9) (hW : p.W.length ≤ 5000) (hcn : p.s.cnt ≤ 9000) (kd : Int) (h4 : kd ≠ 4) (h5 : kd ≠ 5) (h6 : kd ≠ 6) (ot : Bool) (at_ nn F C : Int) (B : List Nat) (fs : List (Int × Int)) (bo : Option Addr) (bc : Nat) (fo : Option Addr) (fc : Nat) (hs : SIn w0 ⟨kd, ot, at_, nn, B, F, C, fs⟩ bo bc fo fc) (hz : (if ot then y else x) = none) :
    Calls Try.prog 21 #[.pointer (some ⟨g, 0, none⟩), .agg #[.int .i64 kd, .bool ot, .int .i64 at_, .int .i64 nn, .slice bo B.length bc, .int .i64 F, .int .i64 C, .slice fo fs.length fc]] w fun e w' => Played w0 w' n size g p e := by
  have HS0 := hide hs
  have HW := hide (And.intro hW (And.intro hcn hn9))
  have HST := hide h
  clear hs hW hcn hn9 h
  cases ot with
  | false =>
    replace hz : x = none := hz
    subst hz
    have g1 := World.grownBy_alloc w (.cells #[.int .i64 kd, .bool false, .int .i64 at_, .int .i64 nn, .slice bo B.length bc, .int .i64 F, .int .i64 C, .slice fo fs.length fc] 59) none
    have r1 : (w.alloc (.cells #[.int .i64 kd, .bool false, .int .i64 at_, .int .i64 nn, .slice bo B.length bc, .int .i64 F, .int .i64 C, .slice fo fs.length fc] 59)).heap[w.heap.size]? = some (.cells (ocells ⟨kd, false, at_, nn, B, F, C, fs⟩ bo bc fo fc).toArray 59 (0, 0)) := heap_alloc_new w _
    have HS := hide (HST.out.then g1)
    have NB := hide (HS.out.px.away r1 (by decide) (by decide) (by decide) (by decide) (by decide) (by decide) (by decide) (by decide))
    have NA := hide HS.out.off
    have y0 : (w.alloc (.cells #[.int .i64 kd, .bool false, .int .i64 at_, .int .i64 nn, .slice bo B.length bc, .int .i64 F, .int .i64 C, .slice fo fs.length fc] 59)).cell? ⟨w.heap.size, 0, none⟩ = some (.int .i64 kd) := cell_row r1 0
    have y1 : (w.alloc (.cells #[.int .i64 kd, .bool false, .int .i64 at_, .int .i64 nn, .slice bo B.length bc, .int .i64 F, .int .i64 C, .slice fo fs.length fc] 59)).cell? ⟨w.heap.size, 1, none⟩ = some (.bool false) := cell_row r1 1
    have y2 : (w.alloc (.cells #[.int .i64 kd, .bool false, .int .i64 at_, .int .i64 nn, .slice bo B.length bc, .int .i64 F, .int .i64 C, .slice fo fs.length fc] 59)).cell? ⟨w.heap.size, 2, none⟩ = some (.int .i64 at_) := cell_row r1 2
    have y3 : (w.alloc (.cells #[.int .i64 kd, .bool false, .int .i64 at_, .int .i64 nn, .slice bo B.length bc, .int .i64 F, .int .i64 C, .slice fo fs.length fc] 59)).cell? ⟨w.heap.size, 3, none⟩ = some (.int .i64 nn) := cell_row r1 3
    have y4 : (w.alloc (.cells #[.int .i64 kd, .bool false, .int .i64 at_, .int .i64 nn, .slice bo B.length bc, .int .i64 F, .int .i64 C, .slice fo fs.length fc] 59)).cell? ⟨w.heap.size, 4, none⟩ = some (.slice bo B.length bc) := cell_row r1 4
    have y5 : (w.alloc (.cells #[.int .i64 kd, .bool false, .int .i64 at_, .int .i64 nn, .slice bo B.length bc, .int .i64 F, .int .i64 C, .slice fo fs.length fc] 59)).cell? ⟨w.heap.size, 5, none⟩ = some (.int .i64 F) := cell_row r1 5
    have y6 : (w.alloc (.cells #[.int .i64 kd, .bool false, .int .i64 at_, .int .i64 nn, .slice bo B.length bc, .int .i64 F, .int .i64 C, .slice fo fs.length fc] 59)).cell? ⟨w.heap.size, 6, none⟩ = some (.int .i64 C) := cell_row r1 6
    have y7 : (w.alloc (.cells #[.int .i64 kd, .bool false, .int .i64 at_, .int .i64 nn, .slice bo B.length bc, .int .i64 F, .int .i64 C, .slice fo fs.length fc] 59)).cell? ⟨w.heap.size, 7, none⟩ = some (.slice fo fs.length fc) := cell_row r1 7
    have c0 := HS.out.c0
    have c1 := HS.out.c1
    have ca := HS.out.c2
    have cb := HS.out.c4
    simp only [rV] at ca
    simp only [qV] at cb
    clear g1 r1
    go_enter Try.func21, Try.ntmps21
    go_wp2_with fail
    generalize w.alloc (.cells #[.int .i64 kd, .bool false, .int .i64 at_, .int .i64 nn, .slice bo B.length bc, .int .i64 F, .int .i64 C, .slice fo fs.length fc] 59) = wa at *
    generalize w.heap.size = B1 at *
    go_quiet (fail)
    have HB := hide (HS.out.then (grown_drewN wa nq none))
    have y0 : (wa.drewN nq).cell? ⟨B1, 0, none⟩ = some (.int .i64 kd) := y0
    have y2 : (wa.drewN nq).cell? ⟨B1, 2, none⟩ = some (.int .i64 at_) := y2
    have y3 : (wa.drewN nq).cell? ⟨B1, 3, none⟩ = some (.int .i64 nn) := y3
    have y4 : (wa.drewN nq).cell? ⟨B1, 4, none⟩ = some (.slice bo B.length bc) := y4
    have y5 : (wa.drewN nq).cell? ⟨B1, 5, none⟩ = some (.int .i64 F) := y5
    have y6 : (wa.drewN nq).cell? ⟨B1, 6, none⟩ = some (.int .i64 C) := y6
    have y7 : (wa.drewN nq).cell? ⟨B1, 7, none⟩ = some (.slice fo fs.length fc) := y7
    have c0 := HB.out.c0
    have c1 := HB.out.c1
    clear ca cb y1 HS
    generalize wa.drewN nq = wb at *
    go_wp2
    go_ret
    exact ⟨rfl, p, none, y, HB.out, by omega, by omega⟩
  | true =>
    replace hz : y = none := hz
    subst hz
    have g1 := World.grownBy_alloc w (.cells #[.int .i64 kd, .bool true, .int .i64 at_, .int .i64 nn, .slice bo B.length bc, .int .i64 F, .int .i64 C, .slice fo fs.length fc] 59) none
    have r1 : (w.alloc (.cells #[.int .i64 kd, .bool true, .int .i64 at_, .int .i64 nn, .slice bo B.length bc, .int .i64 F, .int .i64 C, .slice fo fs.length fc] 59)).heap[w.heap.size]? = some (.cells (ocells ⟨kd, true, at_, nn, B, F, C, fs⟩ bo bc fo fc).toArray 59 (0, 0)) := heap_alloc_new w _
    have HS := hide (HST.out.then g1)
    have NB := hide (HS.out.px.away r1 (by decide) (by decide) (by decide) (by decide) (by decide) (by decide) (by decide) (by decide))
    have NA := hide HS.out.off
    have y0 : (w.alloc (.cells #[.int .i64 kd, .bool true, .int .i64 at_, .int .i64 nn, .slice bo B.length bc, .int .i64 F, .int .i64 C, .slice fo fs.length fc] 59)).cell? ⟨w.heap.size, 0, none⟩ = some (.int .i64 kd) := cell_row r1 0
    have y1 : (w.alloc (.cells #[.int .i64 kd, .bool true, .int .i64 at_, .int .i64 nn, .slice bo B.length bc, .int .i64 F, .int .i64 C, .slice fo fs.length fc] 59)).cell? ⟨w.heap.size, 1, none⟩ = some (.bool true) := cell_row r1 1
    have y2 : (w.alloc (.cells #[.int .i64 kd, .bool true, .int .i64 at_, .int .i64 nn, .slice bo B.length bc, .int .i64 F, .int .i64 C, .slice fo fs.length fc] 59)).cell? ⟨w.heap.size, 2, none⟩ = some (.int .i64 at_) := cell_row r1 2
    have y3 : (w.alloc (.cells #[.int .i64 kd, .bool true, .int .i64 at_, .int .i64 nn, .slice bo B.length bc, .int .i64 F, .int .i64 C, .slice fo fs.length fc] 59)).cell? ⟨w.heap.size, 3, none⟩ = some (.int .i64 nn) := cell_row r1 3
    have y4 : (w.alloc (.cells #[.int .i64 kd, .bool true, .int .i64 at_, .int .i64 nn, .slice bo B.length bc, .int .i64 F, .int .i64 C, .slice fo fs.length fc] 59)).cell? ⟨w.heap.size, 4, none⟩ = some (.slice bo B.length bc) := cell_row r1 4
    have y5 : (w.alloc (.cells #[.int .i64 kd, .bool true, .int .i64 at_, .int .i64 nn, .slice bo B.length bc, .int .i64 F, .int .i64 C, .slice fo fs.length fc] 59)).cell? ⟨w.heap.size, 5, none⟩ = some (.int .i64 F) := cell_row r1 5
    have y6 : (w.alloc (.cells #[.int .i64 kd, .bool true, .int .i64 at_, .int .i64 nn, .slice bo B.length bc, .int .i64 F, .int .i64 C, .slice fo fs.length fc] 59)).cell? ⟨w.heap.size, 6, none⟩ = some (.int .i64 C) := cell_row r1 6
    have y7 : (w.alloc (.cells #[.int .i64 kd, .bool true, .int .i64 at_, .int .i64 nn, .slice bo B.length bc, .int .i64 F, .int .i64 C, .slice fo fs.length fc] 59)).cell? ⟨w.heap.size, 7, none⟩ = some (.slice fo fs.length fc) := cell_row r1 7
    have c0 := HS.out.c0
    have c1 := HS.out.c1
    have ca := HS.out.c3
    have cb := HS.out.c5
    simp only [rV] at ca
    simp only [qV] at cb
    clear g1 r1
    go_enter Try.func21, Try.ntmps21
    go_wp2_with fail
    generalize w.alloc (.cells #[.int .i64 kd, .bool true, .int .i64 at_, .int .i64 nn, .slice bo B.length bc, .int .i64 F, .int .i64 C, .slice fo fs.length fc] 59) = wa at *
    generalize w.heap.size = B1 at *
    go_quiet (fail)
    have HB := hide (HS.out.then (grown_drewN wa nq none))
    have y0 : (wa.drewN nq).cell? ⟨B1, 0, none⟩ = some (.int .i64 kd) := y0
    have y2 : (wa.drewN nq).cell? ⟨B1, 2, none⟩ = some (.int .i64 at_) := y2
    have y3 : (wa.drewN nq).cell? ⟨B1, 3, none⟩ = some (.int .i64 nn) := y3
    have y4 : (wa.drewN nq).cell? ⟨B1, 4, none⟩ = some (.slice bo B.length bc) := y4
    have y5 : (wa.drewN nq).cell? ⟨B1, 5, none⟩ = some (.int .i64 F) := y5
    have y6 : (wa.drewN nq).cell? ⟨B1, 6, none⟩ = some (.int .i64 C) := y6
    have y7 : (wa.drewN nq).cell? ⟨B1, 7, none⟩ = some (.slice fo fs.length fc) := y7
    have c0 := HB.out.c0
    have c1 := HB.out.c1
    clear ca cb y1 HS
    generalize wa.drewN nq = wb at *
    go_wp2
    go_ret
    exact ⟨rfl, p, x, none, HB.out, by omega, by omega⟩
set_option maxRecDepth 20000 in
set_option maxHeartbeats 16000000 in
theorem play_other (h : St w0 w n size g p x y) (hn9 : n ≤ 9) (hW : p.W.length ≤ 5000) (hcn : p.s.cnt ≤ 9000) (kd : Int) (h4 : kd ≠ 4) (h5 : kd ≠ 5) (h6 : kd ≠ 6) (h1 : kd ≠ 1) (h2 : kd ≠ 2) (h3 : kd ≠ 3) (ot : Bool) (at_ nn F C : Int) (B : List Nat) (fs : List (Int × Int)) (bo : Option Addr) (bc : Nat) (fo : Option Addr) (fc : Nat) (hs : SIn w0 ⟨kd, ot, at_, nn, B, F, C, fs⟩ bo bc fo fc) (o : Pl) (hz : (if ot then y else x) = some o) :
    Calls Try.prog 21 #[.pointer (some ⟨g, 0, none⟩), .agg #[.int .i64 kd, .bool ot, .int .i64 at_, .int .i64 nn, .slice bo B.length bc, .int .i64 F, .int .i64 C, .slice fo fs.length fc]] w fun e w' => Played w0 w' n size g p e := by
  have HS0 := hide hs
  have HW := hide (And.intro hW (And.intro hcn hn9))
  have HST := hide h
  clear hs hW hcn hn9 h
  cases ot with
  | false =>
    replace hz : x = some o := hz
    subst hz
    have g1 := World.grownBy_alloc w (.cells #[.int .i64 kd, .bool false, .int .i64 at_, .int .i64 nn, .slice bo B.length bc, .int .i64 F, .int .i64 C, .slice fo fs.length fc] 59) none
    have r1 : (w.alloc (.cells #[.int .i64 kd, .bool false, .int .i64 at_, .int .i64 nn, .slice bo B.length bc, .int .i64 F, .int .i64 C, .slice fo fs.length fc] 59)).heap[w.heap.size]? = some (.cells (ocells ⟨kd, false, at_, nn, B, F, C, fs⟩ bo bc fo fc).toArray 59 (0, 0)) := heap_alloc_new w _
    have HS := hide (HST.out.then g1)
    have NB := hide (HS.out.px.away r1 (by decide) (by decide) (by decide) (by decide) (by decide) (by decide) (by decide) (by decide))
    have NA := hide HS.out.off
    have y0 : (w.alloc (.cells #[.int .i64 kd, .bool false, .int .i64 at_, .int .i64 nn, .slice bo B.length bc, .int .i64 F, .int .i64 C, .slice fo fs.length fc] 59)).cell? ⟨w.heap.size, 0, none⟩ = some (.int .i64 kd) := cell_row r1 0
    have y1 : (w.alloc (.cells #[.int .i64 kd, .bool false, .int .i64 at_, .int .i64 nn, .slice bo B.length bc, .int .i64 F, .int .i64 C, .slice fo fs.length fc] 59)).cell? ⟨w.heap.size, 1, none⟩ = some (.bool false) := cell_row r1 1
    have y2 : (w.alloc (.cells #[.int .i64 kd, .bool false, .int .i64 at_, .int .i64 nn, .slice bo B.length bc, .int .i64 F, .int .i64 C, .slice fo fs.length fc] 59)).cell? ⟨w.heap.size, 2, none⟩ = some (.int .i64 at_) := cell_row r1 2
    have y3 : (w.alloc (.cells #[.int .i64 kd, .bool false, .int .i64 at_, .int .i64 nn, .slice bo B.length bc, .int .i64 F, .int .i64 C, .slice fo fs.length fc] 59)).cell? ⟨w.heap.size, 3, none⟩ = some (.int .i64 nn) := cell_row r1 3
    have y4 : (w.alloc (.cells #[.int .i64 kd, .bool false, .int .i64 at_, .int .i64 nn, .slice bo B.length bc, .int .i64 F, .int .i64 C, .slice fo fs.length fc] 59)).cell? ⟨w.heap.size, 4, none⟩ = some (.slice bo B.length bc) := cell_row r1 4
    have y5 : (w.alloc (.cells #[.int .i64 kd, .bool false, .int .i64 at_, .int .i64 nn, .slice bo B.length bc, .int .i64 F, .int .i64 C, .slice fo fs.length fc] 59)).cell? ⟨w.heap.size, 5, none⟩ = some (.int .i64 F) := cell_row r1 5
    have y6 : (w.alloc (.cells #[.int .i64 kd, .bool false, .int .i64 at_, .int .i64 nn, .slice bo B.length bc, .int .i64 F, .int .i64 C, .slice fo fs.length fc] 59)).cell? ⟨w.heap.size, 6, none⟩ = some (.int .i64 C) := cell_row r1 6
    have y7 : (w.alloc (.cells #[.int .i64 kd, .bool false, .int .i64 at_, .int .i64 nn, .slice bo B.length bc, .int .i64 F, .int .i64 C, .slice fo fs.length fc] 59)).cell? ⟨w.heap.size, 7, none⟩ = some (.slice fo fs.length fc) := cell_row r1 7
    have c0 := HS.out.c0
    have c1 := HS.out.c1
    have ca := HS.out.c2
    have cb := HS.out.c4
    simp only [rV] at ca
    simp only [qV] at cb
    clear g1 r1
    go_enter Try.func21, Try.ntmps21
    go_wp2_with fail
    generalize w.alloc (.cells #[.int .i64 kd, .bool false, .int .i64 at_, .int .i64 nn, .slice bo B.length bc, .int .i64 F, .int .i64 C, .slice fo fs.length fc] 59) = wa at *
    generalize w.heap.size = B1 at *
    go_quiet (fail)
    have HB := hide (HS.out.then (grown_drewN wa nq none))
    have y0 : (wa.drewN nq).cell? ⟨B1, 0, none⟩ = some (.int .i64 kd) := y0
    have y2 : (wa.drewN nq).cell? ⟨B1, 2, none⟩ = some (.int .i64 at_) := y2
    have y3 : (wa.drewN nq).cell? ⟨B1, 3, none⟩ = some (.int .i64 nn) := y3
    have y4 : (wa.drewN nq).cell? ⟨B1, 4, none⟩ = some (.slice bo B.length bc) := y4
    have y5 : (wa.drewN nq).cell? ⟨B1, 5, none⟩ = some (.int .i64 F) := y5
    have y6 : (wa.drewN nq).cell? ⟨B1, 6, none⟩ = some (.int .i64 C) := y6
    have y7 : (wa.drewN nq).cell? ⟨B1, 7, none⟩ = some (.slice fo fs.length fc) := y7
    have c0 := HB.out.c0
    have c1 := HB.out.c1
    clear ca cb y1 HS
    generalize wa.drewN nq = wb at *
    go_wp2
    go_ret
    exact ⟨rfl, p, (some o), y, HB.out, by omega, by omega⟩
  | true =>
    replace hz : y = some o := hz
    subst hz
    have g1 := World.grownBy_alloc w (.cells #[.int .i64 kd, .bool true, .int .i64 at_, .int .i64 nn, .slice bo B.length bc, .int .i64 F, .int .i64 C, .slice fo fs.length fc] 59) none
    have r1 : (w.alloc (.cells #[.int .i64 kd, .bool true, .int .i64 at_, .int .i64 nn, .slice bo B.length bc, .int .i64 F, .int .i64 C, .slice fo fs.length fc] 59)).heap[w.heap.size]? = some (.cells (ocells ⟨kd, true, at_, nn, B, F, C, fs⟩ bo bc fo fc).toArray 59 (0, 0)) := heap_alloc_new w _
    have HS := hide (HST.out.then g1)
    have NB := hide (HS.out.px.away r1 (by decide) (by decide) (by decide) (by decide) (by decide) (by decide) (by decide) (by decide))
    have NA := hide HS.out.off
    have y0 : (w.alloc (.cells #[.int .i64 kd, .bool true, .int .i64 at_, .int .i64 nn, .slice bo B.length bc, .int .i64 F, .int .i64 C, .slice fo fs.length fc] 59)).cell? ⟨w.heap.size, 0, none⟩ = some (.int .i64 kd) := cell_row r1 0
    have y1 : (w.alloc (.cells #[.int .i64 kd, .bool true, .int .i64 at_, .int .i64 nn, .slice bo B.length bc, .int .i64 F, .int .i64 C, .slice fo fs.length fc] 59)).cell? ⟨w.heap.size, 1, none⟩ = some (.bool true) := cell_row r1 1
    have y2 : (w.alloc (.cells #[.int .i64 kd, .bool true, .int .i64 at_, .int .i64 nn, .slice bo B.length bc, .int .i64 F, .int .i64 C, .slice fo fs.length fc] 59)).cell? ⟨w.heap.size, 2, none⟩ = some (.int .i64 at_) := cell_row r1 2
    have y3 : (w.alloc (.cells #[.int .i64 kd, .bool true, .int .i64 at_, .int .i64 nn, .slice bo B.length bc, .int .i64 F, .int .i64 C, .slice fo fs.length fc] 59)).cell? ⟨w.heap.size, 3, none⟩ = some (.int .i64 nn) := cell_row r1 3
    have y4 : (w.alloc (.cells #[.int .i64 kd, .bool true, .int .i64 at_, .int .i64 nn, .slice bo B.length bc, .int .i64 F, .int .i64 C, .slice fo fs.length fc] 59)).cell? ⟨w.heap.size, 4, none⟩ = some (.slice bo B.length bc) := cell_row r1 4
    have y5 : (w.alloc (.cells #[.int .i64 kd, .bool true, .int .i64 at_, .int .i64 nn, .slice bo B.length bc, .int .i64 F, .int .i64 C, .slice fo fs.length fc] 59)).cell? ⟨w.heap.size, 5, none⟩ = some (.int .i64 F) := cell_row r1 5
    have y6 : (w.alloc (.cells #[.int .i64 kd, .bool true, .int .i64 at_, .int .i64 nn, .slice bo B.length bc, .int .i64 F, .int .i64 C, .slice fo fs.length fc] 59)).cell? ⟨w.heap.size, 6, none⟩ = some (.int .i64 C) := cell_row r1 6
    have y7 : (w.alloc (.cells #[.int .i64 kd, .bool true, .int .i64 at_, .int .i64 nn, .slice bo B.length bc, .int .i64 F, .int .i64 C, .slice fo fs.length fc] 59)).cell? ⟨w.heap.size, 7, none⟩ = some (.slice fo fs.length fc) := cell_row r1 7
    have c0 := HS.out.c0
    have c1 := HS.out.c1
    have ca := HS.out.c3
    have cb := HS.out.c5
    simp only [rV] at ca
    simp only [qV] at cb
    clear g1 r1
    go_enter Try.func21, Try.ntmps21
    go_wp2_with fail
    generalize w.alloc (.cells #[.int .i64 kd, .bool true, .int .i64 at_, .int .i64 nn, .slice bo B.length bc, .int .i64 F, .int .i64 C, .slice fo fs.length fc] 59) = wa at *
    generalize w.heap.size = B1 at *
    go_quiet (fail)
    have HB := hide (HS.out.then (grown_drewN wa nq none))
    have y0 : (wa.drewN nq).cell? ⟨B1, 0, none⟩ = some (.int .i64 kd) := y0
    have y2 : (wa.drewN nq).cell? ⟨B1, 2, none⟩ = some (.int .i64 at_) := y2
    have y3 : (wa.drewN nq).cell? ⟨B1, 3, none⟩ = some (.int .i64 nn) := y3
    have y4 : (wa.drewN nq).cell? ⟨B1, 4, none⟩ = some (.slice bo B.length bc) := y4
    have y5 : (wa.drewN nq).cell? ⟨B1, 5, none⟩ = some (.int .i64 F) := y5
    have y6 : (wa.drewN nq).cell? ⟨B1, 6, none⟩ = some (.int .i64 C) := y6
    have y7 : (wa.drewN nq).cell? ⟨B1, 7, none⟩ = some (.slice fo fs.length fc) := y7
    have c0 := HB.out.c0
    have c1 := HB.out.c1
    clear ca cb y1 HS
    generalize wa.drewN nq = wb at *
    go_wp2
    go_ret
    exact ⟨rfl, p, x, (some o), HB.out, by omega, by omega⟩
end
end Go.Proofs.Ytnonghacjfgnmaa
