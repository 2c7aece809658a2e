/- Texts joined: Wo4. -/
import Derived.Test.YtnonghacjfgnmaaJyAc
import Derived.Test.YtnonghacjfgnmaaJbAf
/- A step of the script: the device is armed, comes again; a region is taken. -/
namespace Go.Proofs.Ytnonghacjfgnmaa
open Go.RowKit Ap
attribute [local go_sem ↓] Go.wp_at_zero Go.wp_at_succ

/-- A step. -/
structure Stp where
  kind : Int
  ot : Bool
  at_ : Int
  n : Int
  B : List Nat
  F : Int
  C : Int
  fs : List (Int × Int)
structure SIn (w : World) (o : Stp) (bo : Option Addr) (bc : Nat) (fo : Option Addr) (fc : Nat) : Prop where
  b : BIn w bo bc o.B
  f : FIn w fo fc o.fs
  h1 : o.at_ ≤ 9223372036854775807
  h2 : o.n ≤ 9223372036854775807
  h3 : o.F ≤ 9223372036854775807
  lt : ∀ a, bo = some a → 0 < o.B.length → a.block < w.heap.size
def ocells (o : Stp) (bo : Option Addr) (bc : Nat) (fo : Option Addr) (fc : Nat) : List Value := [.int .i64 o.kind, .bool o.ot, .int .i64 o.at_, .int .i64 o.n, .slice bo o.B.length bc, .int .i64 o.F, .int .i64 o.C, .slice fo o.fs.length fc]
/-- What a step comes to. -/
def Played (w0 w' : World) (n size g : Nat) (p : Px) (e : Ending) : Prop := e = .returned (.bool true) ∧ ∃ p' x' y', St w0 w' n size g p' x' y' ∧ p'.W.length ≤ p.W.length + 9 ∧ p'.s.cnt ≤ p.s.cnt + 18
set_option maxHeartbeats 1000000 in
theorem copyFates_any (fo : Option Addr) (fc : Nat) (F : List (Int × Int)) (w : World) (hF : FIn w fo fc F) :
    Calls Try.prog 60 #[.slice fo F.length fc] w fun e w' => ∃ fo' cap', e = .returned (.slice fo' F.length cap') ∧ FatesAt w' fo' F ∧ (∀ a, fo' = some a → 0 < F.length → w.heap.size ≤ a.block) ∧ w.grownBy w' none := by
  have HF := hide hF
  clear hF
  obtain ⟨n, hn⟩ : ∃ n, n = F.length := ⟨_, rfl⟩
  rw [← hn]
  have HN := hide hn.symm
  clear hn
  go_enter Try.func60, Try.ntmps60
  go_wp2_with (at_builtin; refine wpList_append_fates rfl (.tmp 4) (.tmp 5) rfl w.heap.size (.slice none 0 0) 0 [] rfl (World.ownsRow_nil _ _ _ _) fo n fc F rfl HN.out HF.out.at_ (fun e => by have := HF.out.nil e; rw [HN.out] at this; exact this) (by have := HF.out.size; have := HN.out; omega) (Nat.le_refl _) ?_)
  intro v' w' hown hg
  have hg2 : w.grownBy w' none := hg
  obtain ⟨ao, cap, rfl, h1, h2, h3⟩ := own_form hown
  have HH : Hid (FatesAt w' ao F ∧ (∀ a, ao = some a → 0 < F.length → w.heap.size ≤ a.block) ∧ w.grownBy w' none) := by
    refine ⟨?_, ?_, hg2⟩
    · by_cases hz : 0 < n
      · obtain ⟨g, rfl⟩ := h1 hz
        exact own_fates hown
      · intro j p hj
        have := (List.getElem?_eq_some_iff.1 hj).1
        have := HN.out
        omega
    · intro a e hl
      subst e
      exact (own_block hown a.block rfl).1
  clear hown hg hg2 h1 h2 h3
  go_wp2
  go_ret
  exact ⟨_, _, rfl, HH.out.1, fun a e hl => HH.out.2.1 a e (by rw [HN.out]; exact hl), HH.out.2.2⟩
section
variable {w1 w2 : World} {p : Px} {k' : Dk} {W' : List Wt} {q' : Rk} {A j : Nat} {v : Value}
theorem keep_d (m : DvM w1 w2 p.b p.k k' p.W W') (hc : w1.cell? ⟨A, j, none⟩ = some v) (hA : ¬ p.all A) : w2.cell? ⟨A, j, none⟩ = some v := cell_kept m.kept hc (by
  rintro (e | e)
  · exact hA (.inl (.inl e))
  · exact hA (.inr (.inr (.inl e))))
theorem keep_r (m : RM w1 w2 p.c p.q q') (hc : w1.cell? ⟨A, j, none⟩ = some v) (hA : ¬ p.all A) : w2.cell? ⟨A, j, none⟩ = some v := cell_kept m.kept hc (by
  rintro (e | e)
  · exact hA (.inr (.inl e))
  · exact hA (.inr (.inr (.inr e))))
end
section
variable {w0 w : World} {n size g : Nat} {p : Px} {x y : Option Pl}
set_option maxRecDepth 20000 in
set_option maxHeartbeats 16000000 in
theorem play_arm (h : St w0 w n size g p x y) (hn9 : n ≤ 9) (hW : p.W.length ≤ 5000) (hcn : p.s.cnt ≤ 9000) (ot : Bool) (at_ nn F C : Int) (B : List Nat) (fs : List (Int × Int)) (bo : Option Addr) (bc : Nat) (fo : Option Addr) (fc : Nat) (hs : SIn w0 ⟨4, ot, at_, nn, B, F, C, fs⟩ bo bc fo fc) :
    Calls Try.prog 21 #[.pointer (some ⟨g, 0, none⟩), .agg #[.int .i64 4, .bool ot, .int .i64 at_, .int .i64 nn, .slice bo B.length bc, .int .i64 F, .int .i64 C, .slice fo fs.length fc]] w fun e w' => Played w0 w' n size g p e := by
  have HS0 := hide hs
  have HW := hide (And.intro hW (And.intro hcn hn9))
  have HST := hide h
  clear hs hW hcn hn9 h
  cases ot with
  | false =>
    have g1 := World.grownBy_alloc w (.cells #[.int .i64 4, .bool false, .int .i64 at_, .int .i64 nn, .slice bo B.length bc, .int .i64 F, .int .i64 C, .slice fo fs.length fc] 59) none
    have r1 : (w.alloc (.cells #[.int .i64 4, .bool false, .int .i64 at_, .int .i64 nn, .slice bo B.length bc, .int .i64 F, .int .i64 C, .slice fo fs.length fc] 59)).heap[w.heap.size]? = some (.cells (ocells ⟨4, false, at_, nn, B, F, C, fs⟩ bo bc fo fc).toArray 59 (0, 0)) := heap_alloc_new w _
    have HS := hide (HST.out.then g1)
    have NB := hide (HS.out.px.away r1 (by decide) (by decide) (by decide) (by decide) (by decide) (by decide) (by decide) (by decide))
    have NA := hide HS.out.off
    have y0 : (w.alloc (.cells #[.int .i64 4, .bool false, .int .i64 at_, .int .i64 nn, .slice bo B.length bc, .int .i64 F, .int .i64 C, .slice fo fs.length fc] 59)).cell? ⟨w.heap.size, 0, none⟩ = some (.int .i64 4) := cell_row r1 0
    have y1 : (w.alloc (.cells #[.int .i64 4, .bool false, .int .i64 at_, .int .i64 nn, .slice bo B.length bc, .int .i64 F, .int .i64 C, .slice fo fs.length fc] 59)).cell? ⟨w.heap.size, 1, none⟩ = some (.bool false) := cell_row r1 1
    have y2 : (w.alloc (.cells #[.int .i64 4, .bool false, .int .i64 at_, .int .i64 nn, .slice bo B.length bc, .int .i64 F, .int .i64 C, .slice fo fs.length fc] 59)).cell? ⟨w.heap.size, 2, none⟩ = some (.int .i64 at_) := cell_row r1 2
    have y3 : (w.alloc (.cells #[.int .i64 4, .bool false, .int .i64 at_, .int .i64 nn, .slice bo B.length bc, .int .i64 F, .int .i64 C, .slice fo fs.length fc] 59)).cell? ⟨w.heap.size, 3, none⟩ = some (.int .i64 nn) := cell_row r1 3
    have y4 : (w.alloc (.cells #[.int .i64 4, .bool false, .int .i64 at_, .int .i64 nn, .slice bo B.length bc, .int .i64 F, .int .i64 C, .slice fo fs.length fc] 59)).cell? ⟨w.heap.size, 4, none⟩ = some (.slice bo B.length bc) := cell_row r1 4
    have y5 : (w.alloc (.cells #[.int .i64 4, .bool false, .int .i64 at_, .int .i64 nn, .slice bo B.length bc, .int .i64 F, .int .i64 C, .slice fo fs.length fc] 59)).cell? ⟨w.heap.size, 5, none⟩ = some (.int .i64 F) := cell_row r1 5
    have y6 : (w.alloc (.cells #[.int .i64 4, .bool false, .int .i64 at_, .int .i64 nn, .slice bo B.length bc, .int .i64 F, .int .i64 C, .slice fo fs.length fc] 59)).cell? ⟨w.heap.size, 6, none⟩ = some (.int .i64 C) := cell_row r1 6
    have y7 : (w.alloc (.cells #[.int .i64 4, .bool false, .int .i64 at_, .int .i64 nn, .slice bo B.length bc, .int .i64 F, .int .i64 C, .slice fo fs.length fc] 59)).cell? ⟨w.heap.size, 7, none⟩ = some (.slice fo fs.length fc) := cell_row r1 7
    have c0 := HS.out.c0
    have c1 := HS.out.c1
    have ca := HS.out.c2
    have cb := HS.out.c4
    clear g1 r1
    go_enter Try.func21, Try.ntmps21
    go_wp2_with fail
    generalize w.alloc (.cells #[.int .i64 4, .bool false, .int .i64 at_, .int .i64 nn, .slice bo B.length bc, .int .i64 F, .int .i64 C, .slice fo fs.length fc] 59) = wa at *
    generalize w.heap.size = B1 at *
    go_quiet (fail)
    have HB := hide (HS.out.then (grown_drewN wa nq none))
    have y0 : (wa.drewN nq).cell? ⟨B1, 0, none⟩ = some (.int .i64 4) := y0
    have y2 : (wa.drewN nq).cell? ⟨B1, 2, none⟩ = some (.int .i64 at_) := y2
    have y3 : (wa.drewN nq).cell? ⟨B1, 3, none⟩ = some (.int .i64 nn) := y3
    have y4 : (wa.drewN nq).cell? ⟨B1, 4, none⟩ = some (.slice bo B.length bc) := y4
    have y5 : (wa.drewN nq).cell? ⟨B1, 5, none⟩ = some (.int .i64 F) := y5
    have y6 : (wa.drewN nq).cell? ⟨B1, 6, none⟩ = some (.int .i64 C) := y6
    have y7 : (wa.drewN nq).cell? ⟨B1, 7, none⟩ = some (.slice fo fs.length fc) := y7
    have c0 := HB.out.c0
    have c1 := HB.out.c1
    clear ca cb y1 HS
    generalize wa.drewN nq = wb at *
    have hnn := HS0.out.h2
    simp only at hnn
    go_wp2_with fail
    go_region_held3 (fun w' => w'.cell? ⟨g, 0, none⟩ = some (.pointer (some ⟨p.b, 0, none⟩)) ∧ w'.cell? ⟨g, 1, none⟩ = some (.pointer (some ⟨p.c, 0, none⟩)) ∧ w'.cell? ⟨B1, 3, none⟩ = some (.int .i64 nn)) (first | exact ⟨c0, c1, y3⟩ | assumption | go_keep) (first
      | (go_at_call 18; refine (arm_any (HB.out.px.dev.then (grown_drew _ _)).dev nn hnn).mono ?_; rintro e w2 ⟨rfl, d2, g2⟩; have g2' := grown_then (grown_drew wb (some p.b)) g2 (fun j e => Or.inr e); have m2 : DvM wb w2 p.b p.k p.k p.W p.W := DvM.row g2'; have hS3 : w2.cell? ⟨g, 0, none⟩ = some (.pointer (some ⟨p.b, 0, none⟩)) ∧ w2.cell? ⟨g, 1, none⟩ = some (.pointer (some ⟨p.c, 0, none⟩)) ∧ w2.cell? ⟨B1, 3, none⟩ = some (.int .i64 nn) := ⟨keep_d (p := p) m2 c0 NA.out, keep_d (p := p) m2 c1 NA.out, keep_d (p := p) m2 y3 NB.out⟩; have H2 := hide ((PxW.refl HB.out.px).dev (HB.out.px.dev.dset g2' d2) m2); clear d2 g2 g2' m2)
      | (go_at_call 59; refine (rarm_any H2.out.z.rd.dev nn hnn).mono ?_; rintro e w3 ⟨rfl, d3, g3⟩; obtain ⟨u0, u1, u2⟩ := hS3; have m3 : RM w2 w3 p.c p.q p.q := RM.row g3; have hS4 : w3.cell? ⟨g, 0, none⟩ = some (.pointer (some ⟨p.b, 0, none⟩)) ∧ w3.cell? ⟨g, 1, none⟩ = some (.pointer (some ⟨p.c, 0, none⟩)) ∧ w3.cell? ⟨B1, 3, none⟩ = some (.int .i64 nn) := ⟨keep_r (p := p) m3 u0 NA.out, keep_r (p := p) m3 u1 NA.out, keep_r (p := p) m3 u2 NB.out⟩; have H3 := hide (H2.out.ref (H2.out.z.rd.rset g3 d3) m3); clear d3 g3 m3))
    go_wp2
    go_ret
    refine ⟨?_, _, x, y, HB.out.moved H3.out (same_arm HB.out.same nn), by show p.W.length ≤ _; omega, by show (p.s.armed nn).cnt ≤ _; rw [armed_cnt]; omega⟩
    rw [HB.out.same.st]; simp
  | true =>
    have g1 := World.grownBy_alloc w (.cells #[.int .i64 4, .bool true, .int .i64 at_, .int .i64 nn, .slice bo B.length bc, .int .i64 F, .int .i64 C, .slice fo fs.length fc] 59) none
    have r1 : (w.alloc (.cells #[.int .i64 4, .bool true, .int .i64 at_, .int .i64 nn, .slice bo B.length bc, .int .i64 F, .int .i64 C, .slice fo fs.length fc] 59)).heap[w.heap.size]? = some (.cells (ocells ⟨4, true, at_, nn, B, F, C, fs⟩ bo bc fo fc).toArray 59 (0, 0)) := heap_alloc_new w _
    have HS := hide (HST.out.then g1)
    have NB := hide (HS.out.px.away r1 (by decide) (by decide) (by decide) (by decide) (by decide) (by decide) (by decide) (by decide))
    have NA := hide HS.out.off
    have y0 : (w.alloc (.cells #[.int .i64 4, .bool true, .int .i64 at_, .int .i64 nn, .slice bo B.length bc, .int .i64 F, .int .i64 C, .slice fo fs.length fc] 59)).cell? ⟨w.heap.size, 0, none⟩ = some (.int .i64 4) := cell_row r1 0
    have y1 : (w.alloc (.cells #[.int .i64 4, .bool true, .int .i64 at_, .int .i64 nn, .slice bo B.length bc, .int .i64 F, .int .i64 C, .slice fo fs.length fc] 59)).cell? ⟨w.heap.size, 1, none⟩ = some (.bool true) := cell_row r1 1
    have y2 : (w.alloc (.cells #[.int .i64 4, .bool true, .int .i64 at_, .int .i64 nn, .slice bo B.length bc, .int .i64 F, .int .i64 C, .slice fo fs.length fc] 59)).cell? ⟨w.heap.size, 2, none⟩ = some (.int .i64 at_) := cell_row r1 2
    have y3 : (w.alloc (.cells #[.int .i64 4, .bool true, .int .i64 at_, .int .i64 nn, .slice bo B.length bc, .int .i64 F, .int .i64 C, .slice fo fs.length fc] 59)).cell? ⟨w.heap.size, 3, none⟩ = some (.int .i64 nn) := cell_row r1 3
    have y4 : (w.alloc (.cells #[.int .i64 4, .bool true, .int .i64 at_, .int .i64 nn, .slice bo B.length bc, .int .i64 F, .int .i64 C, .slice fo fs.length fc] 59)).cell? ⟨w.heap.size, 4, none⟩ = some (.slice bo B.length bc) := cell_row r1 4
    have y5 : (w.alloc (.cells #[.int .i64 4, .bool true, .int .i64 at_, .int .i64 nn, .slice bo B.length bc, .int .i64 F, .int .i64 C, .slice fo fs.length fc] 59)).cell? ⟨w.heap.size, 5, none⟩ = some (.int .i64 F) := cell_row r1 5
    have y6 : (w.alloc (.cells #[.int .i64 4, .bool true, .int .i64 at_, .int .i64 nn, .slice bo B.length bc, .int .i64 F, .int .i64 C, .slice fo fs.length fc] 59)).cell? ⟨w.heap.size, 6, none⟩ = some (.int .i64 C) := cell_row r1 6
    have y7 : (w.alloc (.cells #[.int .i64 4, .bool true, .int .i64 at_, .int .i64 nn, .slice bo B.length bc, .int .i64 F, .int .i64 C, .slice fo fs.length fc] 59)).cell? ⟨w.heap.size, 7, none⟩ = some (.slice fo fs.length fc) := cell_row r1 7
    have c0 := HS.out.c0
    have c1 := HS.out.c1
    have ca := HS.out.c3
    have cb := HS.out.c5
    clear g1 r1
    go_enter Try.func21, Try.ntmps21
    go_wp2_with fail
    generalize w.alloc (.cells #[.int .i64 4, .bool true, .int .i64 at_, .int .i64 nn, .slice bo B.length bc, .int .i64 F, .int .i64 C, .slice fo fs.length fc] 59) = wa at *
    generalize w.heap.size = B1 at *
    go_quiet (fail)
    have HB := hide (HS.out.then (grown_drewN wa nq none))
    have y0 : (wa.drewN nq).cell? ⟨B1, 0, none⟩ = some (.int .i64 4) := y0
    have y2 : (wa.drewN nq).cell? ⟨B1, 2, none⟩ = some (.int .i64 at_) := y2
    have y3 : (wa.drewN nq).cell? ⟨B1, 3, none⟩ = some (.int .i64 nn) := y3
    have y4 : (wa.drewN nq).cell? ⟨B1, 4, none⟩ = some (.slice bo B.length bc) := y4
    have y5 : (wa.drewN nq).cell? ⟨B1, 5, none⟩ = some (.int .i64 F) := y5
    have y6 : (wa.drewN nq).cell? ⟨B1, 6, none⟩ = some (.int .i64 C) := y6
    have y7 : (wa.drewN nq).cell? ⟨B1, 7, none⟩ = some (.slice fo fs.length fc) := y7
    have c0 := HB.out.c0
    have c1 := HB.out.c1
    clear ca cb y1 HS
    generalize wa.drewN nq = wb at *
    have hnn := HS0.out.h2
    simp only at hnn
    go_wp2_with fail
    go_region_held3 (fun w' => w'.cell? ⟨g, 0, none⟩ = some (.pointer (some ⟨p.b, 0, none⟩)) ∧ w'.cell? ⟨g, 1, none⟩ = some (.pointer (some ⟨p.c, 0, none⟩)) ∧ w'.cell? ⟨B1, 3, none⟩ = some (.int .i64 nn)) (first | exact ⟨c0, c1, y3⟩ | assumption | go_keep) (first
      | (go_at_call 18; refine (arm_any (HB.out.px.dev.then (grown_drew _ _)).dev nn hnn).mono ?_; rintro e w2 ⟨rfl, d2, g2⟩; have g2' := grown_then (grown_drew wb (some p.b)) g2 (fun j e => Or.inr e); have m2 : DvM wb w2 p.b p.k p.k p.W p.W := DvM.row g2'; have hS3 : w2.cell? ⟨g, 0, none⟩ = some (.pointer (some ⟨p.b, 0, none⟩)) ∧ w2.cell? ⟨g, 1, none⟩ = some (.pointer (some ⟨p.c, 0, none⟩)) ∧ w2.cell? ⟨B1, 3, none⟩ = some (.int .i64 nn) := ⟨keep_d (p := p) m2 c0 NA.out, keep_d (p := p) m2 c1 NA.out, keep_d (p := p) m2 y3 NB.out⟩; have H2 := hide ((PxW.refl HB.out.px).dev (HB.out.px.dev.dset g2' d2) m2); clear d2 g2 g2' m2)
      | (go_at_call 59; refine (rarm_any H2.out.z.rd.dev nn hnn).mono ?_; rintro e w3 ⟨rfl, d3, g3⟩; obtain ⟨u0, u1, u2⟩ := hS3; have m3 : RM w2 w3 p.c p.q p.q := RM.row g3; have hS4 : w3.cell? ⟨g, 0, none⟩ = some (.pointer (some ⟨p.b, 0, none⟩)) ∧ w3.cell? ⟨g, 1, none⟩ = some (.pointer (some ⟨p.c, 0, none⟩)) ∧ w3.cell? ⟨B1, 3, none⟩ = some (.int .i64 nn) := ⟨keep_r (p := p) m3 u0 NA.out, keep_r (p := p) m3 u1 NA.out, keep_r (p := p) m3 u2 NB.out⟩; have H3 := hide (H2.out.ref (H2.out.z.rd.rset g3 d3) m3); clear d3 g3 m3))
    go_wp2
    go_ret
    refine ⟨?_, _, x, y, HB.out.moved H3.out (same_arm HB.out.same nn), by show p.W.length ≤ _; omega, by show (p.s.armed nn).cnt ≤ _; rw [armed_cnt]; omega⟩
    rw [HB.out.same.st]; simp
set_option maxRecDepth 20000 in
set_option maxHeartbeats 16000000 in
theorem play_again (h : St w0 w n size g p x y) (hn9 : n ≤ 9) (hW : p.W.length ≤ 5000) (hcn : p.s.cnt ≤ 9000) (ot : Bool) (at_ nn F C : Int) (B : List Nat) (fs : List (Int × Int)) (bo : Option Addr) (bc : Nat) (fo : Option Addr) (fc : Nat) (hs : SIn w0 ⟨5, ot, at_, nn, B, F, C, fs⟩ bo bc fo fc) :
    Calls Try.prog 21 #[.pointer (some ⟨g, 0, none⟩), .agg #[.int .i64 5, .bool ot, .int .i64 at_, .int .i64 nn, .slice bo B.length bc, .int .i64 F, .int .i64 C, .slice fo fs.length fc]] w fun e w' => Played w0 w' n size g p e := by
  have HS0 := hide hs
  have HW := hide (And.intro hW (And.intro hcn hn9))
  have HST := hide h
  clear hs hW hcn hn9 h
  cases ot with
  | false =>
    have g1 := World.grownBy_alloc w (.cells #[.int .i64 5, .bool false, .int .i64 at_, .int .i64 nn, .slice bo B.length bc, .int .i64 F, .int .i64 C, .slice fo fs.length fc] 59) none
    have r1 : (w.alloc (.cells #[.int .i64 5, .bool false, .int .i64 at_, .int .i64 nn, .slice bo B.length bc, .int .i64 F, .int .i64 C, .slice fo fs.length fc] 59)).heap[w.heap.size]? = some (.cells (ocells ⟨5, false, at_, nn, B, F, C, fs⟩ bo bc fo fc).toArray 59 (0, 0)) := heap_alloc_new w _
    have HS := hide (HST.out.then g1)
    have NB := hide (HS.out.px.away r1 (by decide) (by decide) (by decide) (by decide) (by decide) (by decide) (by decide) (by decide))
    have NA := hide HS.out.off
    have y0 : (w.alloc (.cells #[.int .i64 5, .bool false, .int .i64 at_, .int .i64 nn, .slice bo B.length bc, .int .i64 F, .int .i64 C, .slice fo fs.length fc] 59)).cell? ⟨w.heap.size, 0, none⟩ = some (.int .i64 5) := cell_row r1 0
    have y1 : (w.alloc (.cells #[.int .i64 5, .bool false, .int .i64 at_, .int .i64 nn, .slice bo B.length bc, .int .i64 F, .int .i64 C, .slice fo fs.length fc] 59)).cell? ⟨w.heap.size, 1, none⟩ = some (.bool false) := cell_row r1 1
    have y2 : (w.alloc (.cells #[.int .i64 5, .bool false, .int .i64 at_, .int .i64 nn, .slice bo B.length bc, .int .i64 F, .int .i64 C, .slice fo fs.length fc] 59)).cell? ⟨w.heap.size, 2, none⟩ = some (.int .i64 at_) := cell_row r1 2
    have y3 : (w.alloc (.cells #[.int .i64 5, .bool false, .int .i64 at_, .int .i64 nn, .slice bo B.length bc, .int .i64 F, .int .i64 C, .slice fo fs.length fc] 59)).cell? ⟨w.heap.size, 3, none⟩ = some (.int .i64 nn) := cell_row r1 3
    have y4 : (w.alloc (.cells #[.int .i64 5, .bool false, .int .i64 at_, .int .i64 nn, .slice bo B.length bc, .int .i64 F, .int .i64 C, .slice fo fs.length fc] 59)).cell? ⟨w.heap.size, 4, none⟩ = some (.slice bo B.length bc) := cell_row r1 4
    have y5 : (w.alloc (.cells #[.int .i64 5, .bool false, .int .i64 at_, .int .i64 nn, .slice bo B.length bc, .int .i64 F, .int .i64 C, .slice fo fs.length fc] 59)).cell? ⟨w.heap.size, 5, none⟩ = some (.int .i64 F) := cell_row r1 5
    have y6 : (w.alloc (.cells #[.int .i64 5, .bool false, .int .i64 at_, .int .i64 nn, .slice bo B.length bc, .int .i64 F, .int .i64 C, .slice fo fs.length fc] 59)).cell? ⟨w.heap.size, 6, none⟩ = some (.int .i64 C) := cell_row r1 6
    have y7 : (w.alloc (.cells #[.int .i64 5, .bool false, .int .i64 at_, .int .i64 nn, .slice bo B.length bc, .int .i64 F, .int .i64 C, .slice fo fs.length fc] 59)).cell? ⟨w.heap.size, 7, none⟩ = some (.slice fo fs.length fc) := cell_row r1 7
    have c0 := HS.out.c0
    have c1 := HS.out.c1
    have ca := HS.out.c2
    have cb := HS.out.c4
    clear g1 r1
    go_enter Try.func21, Try.ntmps21
    go_wp2_with fail
    generalize w.alloc (.cells #[.int .i64 5, .bool false, .int .i64 at_, .int .i64 nn, .slice bo B.length bc, .int .i64 F, .int .i64 C, .slice fo fs.length fc] 59) = wa at *
    generalize w.heap.size = B1 at *
    go_quiet (fail)
    have HB := hide (HS.out.then (grown_drewN wa nq none))
    have y0 : (wa.drewN nq).cell? ⟨B1, 0, none⟩ = some (.int .i64 5) := y0
    have y2 : (wa.drewN nq).cell? ⟨B1, 2, none⟩ = some (.int .i64 at_) := y2
    have y3 : (wa.drewN nq).cell? ⟨B1, 3, none⟩ = some (.int .i64 nn) := y3
    have y4 : (wa.drewN nq).cell? ⟨B1, 4, none⟩ = some (.slice bo B.length bc) := y4
    have y5 : (wa.drewN nq).cell? ⟨B1, 5, none⟩ = some (.int .i64 F) := y5
    have y6 : (wa.drewN nq).cell? ⟨B1, 6, none⟩ = some (.int .i64 C) := y6
    have y7 : (wa.drewN nq).cell? ⟨B1, 7, none⟩ = some (.slice fo fs.length fc) := y7
    have c0 := HB.out.c0
    have c1 := HB.out.c1
    clear ca cb y1 HS
    generalize wa.drewN nq = wb at *
    have FI : Hid (FIn wb fo fc fs) := ⟨HS0.out.f.at_.grown HB.out.px.dev.disk.grown, HS0.out.f.nil, HS0.out.f.size, fun a e l => Nat.lt_of_lt_of_le (HS0.out.f.lt a e l) HB.out.px.dev.disk.grown.size⟩
    have HFL := hide HS0.out.f.lt
    have HLO := hide HB.out.px.low
    have F1 : Hid (∀ i, p.own i → i < wb.heap.size) := fun i e => HB.out.px.lt i (Px.own_all e)
    have hFb : fs.length ≤ 140737488355328 := by have := FI.out.size; omega
    go_wp2_with fail
    go_region_held3 (fun w' => w'.cell? ⟨g, 0, none⟩ = some (.pointer (some ⟨p.b, 0, none⟩)) ∧ w'.cell? ⟨g, 1, none⟩ = some (.pointer (some ⟨p.c, 0, none⟩)) ∧ w'.cell? ⟨B1, 7, none⟩ = some (.slice fo fs.length fc)) (first | exact ⟨c0, c1, y7⟩ | assumption | go_keep) (first
      | (go_at_call 60; refine (copyFates_any fo fc fs _ ⟨FI.out.at_.grown (grown_drew _ _), FI.out.nil, FI.out.size, FI.out.lt⟩).mono ?_; rintro e w2 ⟨fo2, cap2, rfl, f2, l2, g2⟩; have g2' := grown_trans (grown_drew wb none) g2; have hS3 : w2.cell? ⟨g, 0, none⟩ = some (.pointer (some ⟨p.b, 0, none⟩)) ∧ w2.cell? ⟨g, 1, none⟩ = some (.pointer (some ⟨p.c, 0, none⟩)) ∧ w2.cell? ⟨B1, 7, none⟩ = some (.slice fo fs.length fc) := ⟨g2'.cell c0 (by simp), g2'.cell c1 (by simp), g2'.cell y7 (by simp)⟩; have l2' : ∀ a, fo2 = some a → 0 < fs.length → wb.heap.size ≤ a.block := l2; have A2 := hide (And.intro f2 (And.intro l2' (FI.out.at_.grown g2'))); have H2 := hide ((PxW.refl HB.out.px).new g2'); clear f2 l2 l2' g2 g2')
      | (go_at_call 23; refine (restart_any H2.out.z.dev fo2 fs.length cap2 fs rfl A2.out.1 (fun a e l => by have h1 := F1.out p.k.db (.inl (.inr (.inl rfl))); have h2 := F1.out p.b (.inr (.inr (.inl rfl))); have h3 := A2.out.2.1 a e l; constructor <;> omega)).mono ?_; rintro e w3 ⟨rfl, D3, d3, m3, a3⟩; obtain ⟨u0, u1, u2⟩ := hS3; have hS4 : w3.cell? ⟨g, 0, none⟩ = some (.pointer (some ⟨p.b, 0, none⟩)) ∧ w3.cell? ⟨g, 1, none⟩ = some (.pointer (some ⟨p.c, 0, none⟩)) ∧ w3.cell? ⟨B1, 7, none⟩ = some (.slice fo fs.length fc) := ⟨keep_d (p := p) m3 u0 NA.out, keep_d (p := p) m3 u1 NA.out, keep_d (p := p) m3 u2 NB.out⟩; have H3 := hide (H2.out.dev d3 m3); have E3 := hide a3; have A3 := hide (A2.out.2.2.offT m3.kept (fun a e hl2 hT => by have h1 : p.own a.block := (by rcases hT with e | e; exact .inl e; exact .inr (.inr (.inl e))); have := HLO.out _ h1; have := HFL.out a e hl2; omega)); clear d3 m3 a3)
      | (go_at_call 24; refine (rdrestart_any H3.out.z.rd (by have := HW.out.1; have := HB.out.same.len; show p.q.V.length ≤ _; omega) fo fs.length fc fs rfl hFb A3.out (fun a e hl2 hT => by have h1 : p.own a.block := .inr (.inl hT); have := HLO.out _ h1; have := HFL.out a e hl2; omega)).mono ?_; rintro e w4 ⟨rfl, q4, d4, m4, a4⟩; obtain ⟨u0, u1, u2⟩ := hS4; have hS5 : w4.cell? ⟨g, 0, none⟩ = some (.pointer (some ⟨p.b, 0, none⟩)) ∧ w4.cell? ⟨g, 1, none⟩ = some (.pointer (some ⟨p.c, 0, none⟩)) ∧ w4.cell? ⟨B1, 7, none⟩ = some (.slice fo fs.length fc) := ⟨keep_r (p := p) m4 u0 NA.out, keep_r (p := p) m4 u1 NA.out, keep_r (p := p) m4 u2 NB.out⟩; have H4 := hide (H3.out.ref d4 m4); have E4 := hide a4; clear d4 m4 a4))
    go_wp2
    go_ret
    exact ⟨rfl, _, x, y, HB.out.moved H4.out (same_crash HB.out.same HB.out.px.dev.disk.disk E3.out E4.out), by show 0 ≤ _; omega, by show 0 ≤ _; omega⟩
  | true =>
    have g1 := World.grownBy_alloc w (.cells #[.int .i64 5, .bool true, .int .i64 at_, .int .i64 nn, .slice bo B.length bc, .int .i64 F, .int .i64 C, .slice fo fs.length fc] 59) none
    have r1 : (w.alloc (.cells #[.int .i64 5, .bool true, .int .i64 at_, .int .i64 nn, .slice bo B.length bc, .int .i64 F, .int .i64 C, .slice fo fs.length fc] 59)).heap[w.heap.size]? = some (.cells (ocells ⟨5, true, at_, nn, B, F, C, fs⟩ bo bc fo fc).toArray 59 (0, 0)) := heap_alloc_new w _
    have HS := hide (HST.out.then g1)
    have NB := hide (HS.out.px.away r1 (by decide) (by decide) (by decide) (by decide) (by decide) (by decide) (by decide) (by decide))
    have NA := hide HS.out.off
    have y0 : (w.alloc (.cells #[.int .i64 5, .bool true, .int .i64 at_, .int .i64 nn, .slice bo B.length bc, .int .i64 F, .int .i64 C, .slice fo fs.length fc] 59)).cell? ⟨w.heap.size, 0, none⟩ = some (.int .i64 5) := cell_row r1 0
    have y1 : (w.alloc (.cells #[.int .i64 5, .bool true, .int .i64 at_, .int .i64 nn, .slice bo B.length bc, .int .i64 F, .int .i64 C, .slice fo fs.length fc] 59)).cell? ⟨w.heap.size, 1, none⟩ = some (.bool true) := cell_row r1 1
    have y2 : (w.alloc (.cells #[.int .i64 5, .bool true, .int .i64 at_, .int .i64 nn, .slice bo B.length bc, .int .i64 F, .int .i64 C, .slice fo fs.length fc] 59)).cell? ⟨w.heap.size, 2, none⟩ = some (.int .i64 at_) := cell_row r1 2
    have y3 : (w.alloc (.cells #[.int .i64 5, .bool true, .int .i64 at_, .int .i64 nn, .slice bo B.length bc, .int .i64 F, .int .i64 C, .slice fo fs.length fc] 59)).cell? ⟨w.heap.size, 3, none⟩ = some (.int .i64 nn) := cell_row r1 3
    have y4 : (w.alloc (.cells #[.int .i64 5, .bool true, .int .i64 at_, .int .i64 nn, .slice bo B.length bc, .int .i64 F, .int .i64 C, .slice fo fs.length fc] 59)).cell? ⟨w.heap.size, 4, none⟩ = some (.slice bo B.length bc) := cell_row r1 4
    have y5 : (w.alloc (.cells #[.int .i64 5, .bool true, .int .i64 at_, .int .i64 nn, .slice bo B.length bc, .int .i64 F, .int .i64 C, .slice fo fs.length fc] 59)).cell? ⟨w.heap.size, 5, none⟩ = some (.int .i64 F) := cell_row r1 5
    have y6 : (w.alloc (.cells #[.int .i64 5, .bool true, .int .i64 at_, .int .i64 nn, .slice bo B.length bc, .int .i64 F, .int .i64 C, .slice fo fs.length fc] 59)).cell? ⟨w.heap.size, 6, none⟩ = some (.int .i64 C) := cell_row r1 6
    have y7 : (w.alloc (.cells #[.int .i64 5, .bool true, .int .i64 at_, .int .i64 nn, .slice bo B.length bc, .int .i64 F, .int .i64 C, .slice fo fs.length fc] 59)).cell? ⟨w.heap.size, 7, none⟩ = some (.slice fo fs.length fc) := cell_row r1 7
    have c0 := HS.out.c0
    have c1 := HS.out.c1
    have ca := HS.out.c3
    have cb := HS.out.c5
    clear g1 r1
    go_enter Try.func21, Try.ntmps21
    go_wp2_with fail
    generalize w.alloc (.cells #[.int .i64 5, .bool true, .int .i64 at_, .int .i64 nn, .slice bo B.length bc, .int .i64 F, .int .i64 C, .slice fo fs.length fc] 59) = wa at *
    generalize w.heap.size = B1 at *
    go_quiet (fail)
    have HB := hide (HS.out.then (grown_drewN wa nq none))
    have y0 : (wa.drewN nq).cell? ⟨B1, 0, none⟩ = some (.int .i64 5) := y0
    have y2 : (wa.drewN nq).cell? ⟨B1, 2, none⟩ = some (.int .i64 at_) := y2
    have y3 : (wa.drewN nq).cell? ⟨B1, 3, none⟩ = some (.int .i64 nn) := y3
    have y4 : (wa.drewN nq).cell? ⟨B1, 4, none⟩ = some (.slice bo B.length bc) := y4
    have y5 : (wa.drewN nq).cell? ⟨B1, 5, none⟩ = some (.int .i64 F) := y5
    have y6 : (wa.drewN nq).cell? ⟨B1, 6, none⟩ = some (.int .i64 C) := y6
    have y7 : (wa.drewN nq).cell? ⟨B1, 7, none⟩ = some (.slice fo fs.length fc) := y7
    have c0 := HB.out.c0
    have c1 := HB.out.c1
    clear ca cb y1 HS
    generalize wa.drewN nq = wb at *
    have FI : Hid (FIn wb fo fc fs) := ⟨HS0.out.f.at_.grown HB.out.px.dev.disk.grown, HS0.out.f.nil, HS0.out.f.size, fun a e l => Nat.lt_of_lt_of_le (HS0.out.f.lt a e l) HB.out.px.dev.disk.grown.size⟩
    have HFL := hide HS0.out.f.lt
    have HLO := hide HB.out.px.low
    have F1 : Hid (∀ i, p.own i → i < wb.heap.size) := fun i e => HB.out.px.lt i (Px.own_all e)
    have hFb : fs.length ≤ 140737488355328 := by have := FI.out.size; omega
    go_wp2_with fail
    go_region_held3 (fun w' => w'.cell? ⟨g, 0, none⟩ = some (.pointer (some ⟨p.b, 0, none⟩)) ∧ w'.cell? ⟨g, 1, none⟩ = some (.pointer (some ⟨p.c, 0, none⟩)) ∧ w'.cell? ⟨B1, 7, none⟩ = some (.slice fo fs.length fc)) (first | exact ⟨c0, c1, y7⟩ | assumption | go_keep) (first
      | (go_at_call 60; refine (copyFates_any fo fc fs _ ⟨FI.out.at_.grown (grown_drew _ _), FI.out.nil, FI.out.size, FI.out.lt⟩).mono ?_; rintro e w2 ⟨fo2, cap2, rfl, f2, l2, g2⟩; have g2' := grown_trans (grown_drew wb none) g2; have hS3 : w2.cell? ⟨g, 0, none⟩ = some (.pointer (some ⟨p.b, 0, none⟩)) ∧ w2.cell? ⟨g, 1, none⟩ = some (.pointer (some ⟨p.c, 0, none⟩)) ∧ w2.cell? ⟨B1, 7, none⟩ = some (.slice fo fs.length fc) := ⟨g2'.cell c0 (by simp), g2'.cell c1 (by simp), g2'.cell y7 (by simp)⟩; have l2' : ∀ a, fo2 = some a → 0 < fs.length → wb.heap.size ≤ a.block := l2; have A2 := hide (And.intro f2 (And.intro l2' (FI.out.at_.grown g2'))); have H2 := hide ((PxW.refl HB.out.px).new g2'); clear f2 l2 l2' g2 g2')
      | (go_at_call 23; refine (restart_any H2.out.z.dev fo2 fs.length cap2 fs rfl A2.out.1 (fun a e l => by have h1 := F1.out p.k.db (.inl (.inr (.inl rfl))); have h2 := F1.out p.b (.inr (.inr (.inl rfl))); have h3 := A2.out.2.1 a e l; constructor <;> omega)).mono ?_; rintro e w3 ⟨rfl, D3, d3, m3, a3⟩; obtain ⟨u0, u1, u2⟩ := hS3; have hS4 : w3.cell? ⟨g, 0, none⟩ = some (.pointer (some ⟨p.b, 0, none⟩)) ∧ w3.cell? ⟨g, 1, none⟩ = some (.pointer (some ⟨p.c, 0, none⟩)) ∧ w3.cell? ⟨B1, 7, none⟩ = some (.slice fo fs.length fc) := ⟨keep_d (p := p) m3 u0 NA.out, keep_d (p := p) m3 u1 NA.out, keep_d (p := p) m3 u2 NB.out⟩; have H3 := hide (H2.out.dev d3 m3); have E3 := hide a3; have A3 := hide (A2.out.2.2.offT m3.kept (fun a e hl2 hT => by have h1 : p.own a.block := (by rcases hT with e | e; exact .inl e; exact .inr (.inr (.inl e))); have := HLO.out _ h1; have := HFL.out a e hl2; omega)); clear d3 m3 a3)
      | (go_at_call 24; refine (rdrestart_any H3.out.z.rd (by have := HW.out.1; have := HB.out.same.len; show p.q.V.length ≤ _; omega) fo fs.length fc fs rfl hFb A3.out (fun a e hl2 hT => by have h1 : p.own a.block := .inr (.inl hT); have := HLO.out _ h1; have := HFL.out a e hl2; omega)).mono ?_; rintro e w4 ⟨rfl, q4, d4, m4, a4⟩; obtain ⟨u0, u1, u2⟩ := hS4; have hS5 : w4.cell? ⟨g, 0, none⟩ = some (.pointer (some ⟨p.b, 0, none⟩)) ∧ w4.cell? ⟨g, 1, none⟩ = some (.pointer (some ⟨p.c, 0, none⟩)) ∧ w4.cell? ⟨B1, 7, none⟩ = some (.slice fo fs.length fc) := ⟨keep_r (p := p) m4 u0 NA.out, keep_r (p := p) m4 u1 NA.out, keep_r (p := p) m4 u2 NB.out⟩; have H4 := hide (H3.out.ref d4 m4); have E4 := hide a4; clear d4 m4 a4))
    go_wp2
    go_ret
    exact ⟨rfl, _, x, y, HB.out.moved H4.out (same_crash HB.out.same HB.out.px.dev.disk.disk E3.out E4.out), by show 0 ≤ _; omega, by show 0 ≤ _; omega⟩
set_option maxRecDepth 20000 in
set_option maxHeartbeats 16000000 in
theorem play_takes (h : St w0 w n size g p x y) (hn9 : n ≤ 9) (hW : p.W.length ≤ 5000) (hcn : p.s.cnt ≤ 9000) (ot : Bool) (at_ nn F C : Int) (B : List Nat) (fs : List (Int × Int)) (bo : Option Addr) (bc : Nat) (fo : Option Addr) (fc : Nat) (hs : SIn w0 ⟨6, ot, at_, nn, B, F, C, fs⟩ bo bc fo fc) :
    Calls Try.prog 21 #[.pointer (some ⟨g, 0, none⟩), .agg #[.int .i64 6, .bool ot, .int .i64 at_, .int .i64 nn, .slice bo B.length bc, .int .i64 F, .int .i64 C, .slice fo fs.length fc]] w fun e w' => Played w0 w' n size g p e := by
  have HS0 := hide hs
  have HW := hide (And.intro hW (And.intro hcn hn9))
  have HST := hide h
  clear hs hW hcn hn9 h
  cases ot with
  | false =>
    have g1 := World.grownBy_alloc w (.cells #[.int .i64 6, .bool false, .int .i64 at_, .int .i64 nn, .slice bo B.length bc, .int .i64 F, .int .i64 C, .slice fo fs.length fc] 59) none
    have r1 : (w.alloc (.cells #[.int .i64 6, .bool false, .int .i64 at_, .int .i64 nn, .slice bo B.length bc, .int .i64 F, .int .i64 C, .slice fo fs.length fc] 59)).heap[w.heap.size]? = some (.cells (ocells ⟨6, false, at_, nn, B, F, C, fs⟩ bo bc fo fc).toArray 59 (0, 0)) := heap_alloc_new w _
    have HS := hide (HST.out.then g1)
    have NB := hide (HS.out.px.away r1 (by decide) (by decide) (by decide) (by decide) (by decide) (by decide) (by decide) (by decide))
    have NA := hide HS.out.off
    have y0 : (w.alloc (.cells #[.int .i64 6, .bool false, .int .i64 at_, .int .i64 nn, .slice bo B.length bc, .int .i64 F, .int .i64 C, .slice fo fs.length fc] 59)).cell? ⟨w.heap.size, 0, none⟩ = some (.int .i64 6) := cell_row r1 0
    have y1 : (w.alloc (.cells #[.int .i64 6, .bool false, .int .i64 at_, .int .i64 nn, .slice bo B.length bc, .int .i64 F, .int .i64 C, .slice fo fs.length fc] 59)).cell? ⟨w.heap.size, 1, none⟩ = some (.bool false) := cell_row r1 1
    have y2 : (w.alloc (.cells #[.int .i64 6, .bool false, .int .i64 at_, .int .i64 nn, .slice bo B.length bc, .int .i64 F, .int .i64 C, .slice fo fs.length fc] 59)).cell? ⟨w.heap.size, 2, none⟩ = some (.int .i64 at_) := cell_row r1 2
    have y3 : (w.alloc (.cells #[.int .i64 6, .bool false, .int .i64 at_, .int .i64 nn, .slice bo B.length bc, .int .i64 F, .int .i64 C, .slice fo fs.length fc] 59)).cell? ⟨w.heap.size, 3, none⟩ = some (.int .i64 nn) := cell_row r1 3
    have y4 : (w.alloc (.cells #[.int .i64 6, .bool false, .int .i64 at_, .int .i64 nn, .slice bo B.length bc, .int .i64 F, .int .i64 C, .slice fo fs.length fc] 59)).cell? ⟨w.heap.size, 4, none⟩ = some (.slice bo B.length bc) := cell_row r1 4
    have y5 : (w.alloc (.cells #[.int .i64 6, .bool false, .int .i64 at_, .int .i64 nn, .slice bo B.length bc, .int .i64 F, .int .i64 C, .slice fo fs.length fc] 59)).cell? ⟨w.heap.size, 5, none⟩ = some (.int .i64 F) := cell_row r1 5
    have y6 : (w.alloc (.cells #[.int .i64 6, .bool false, .int .i64 at_, .int .i64 nn, .slice bo B.length bc, .int .i64 F, .int .i64 C, .slice fo fs.length fc] 59)).cell? ⟨w.heap.size, 6, none⟩ = some (.int .i64 C) := cell_row r1 6
    have y7 : (w.alloc (.cells #[.int .i64 6, .bool false, .int .i64 at_, .int .i64 nn, .slice bo B.length bc, .int .i64 F, .int .i64 C, .slice fo fs.length fc] 59)).cell? ⟨w.heap.size, 7, none⟩ = some (.slice fo fs.length fc) := cell_row r1 7
    have c0 := HS.out.c0
    have c1 := HS.out.c1
    have ca := HS.out.c2
    have cb := HS.out.c4
    clear g1 r1
    go_enter Try.func21, Try.ntmps21
    go_wp2_with fail
    generalize w.alloc (.cells #[.int .i64 6, .bool false, .int .i64 at_, .int .i64 nn, .slice bo B.length bc, .int .i64 F, .int .i64 C, .slice fo fs.length fc] 59) = wa at *
    generalize w.heap.size = B1 at *
    go_quiet (fail)
    have HB := hide (HS.out.then (grown_drewN wa nq none))
    have y0 : (wa.drewN nq).cell? ⟨B1, 0, none⟩ = some (.int .i64 6) := y0
    have y2 : (wa.drewN nq).cell? ⟨B1, 2, none⟩ = some (.int .i64 at_) := y2
    have y3 : (wa.drewN nq).cell? ⟨B1, 3, none⟩ = some (.int .i64 nn) := y3
    have y4 : (wa.drewN nq).cell? ⟨B1, 4, none⟩ = some (.slice bo B.length bc) := y4
    have y5 : (wa.drewN nq).cell? ⟨B1, 5, none⟩ = some (.int .i64 F) := y5
    have y6 : (wa.drewN nq).cell? ⟨B1, 6, none⟩ = some (.int .i64 C) := y6
    have y7 : (wa.drewN nq).cell? ⟨B1, 7, none⟩ = some (.slice fo fs.length fc) := y7
    have c0 := HB.out.c0
    have c1 := HB.out.c1
    clear ca cb y1 HS
    generalize wa.drewN nq = wb at *
    go_wp2_with fail
    refine (takes_any HB.out false F C HS0.out.h3).mono ?_
    rintro e w2 ⟨rfl, x', y', h2⟩
    have H2 := hide h2
    clear h2
    go_wp2
    go_ret
    exact ⟨rfl, p, x', y', H2.out, by omega, by omega⟩
  | true =>
    have g1 := World.grownBy_alloc w (.cells #[.int .i64 6, .bool true, .int .i64 at_, .int .i64 nn, .slice bo B.length bc, .int .i64 F, .int .i64 C, .slice fo fs.length fc] 59) none
    have r1 : (w.alloc (.cells #[.int .i64 6, .bool true, .int .i64 at_, .int .i64 nn, .slice bo B.length bc, .int .i64 F, .int .i64 C, .slice fo fs.length fc] 59)).heap[w.heap.size]? = some (.cells (ocells ⟨6, true, at_, nn, B, F, C, fs⟩ bo bc fo fc).toArray 59 (0, 0)) := heap_alloc_new w _
    have HS := hide (HST.out.then g1)
    have NB := hide (HS.out.px.away r1 (by decide) (by decide) (by decide) (by decide) (by decide) (by decide) (by decide) (by decide))
    have NA := hide HS.out.off
    have y0 : (w.alloc (.cells #[.int .i64 6, .bool true, .int .i64 at_, .int .i64 nn, .slice bo B.length bc, .int .i64 F, .int .i64 C, .slice fo fs.length fc] 59)).cell? ⟨w.heap.size, 0, none⟩ = some (.int .i64 6) := cell_row r1 0
    have y1 : (w.alloc (.cells #[.int .i64 6, .bool true, .int .i64 at_, .int .i64 nn, .slice bo B.length bc, .int .i64 F, .int .i64 C, .slice fo fs.length fc] 59)).cell? ⟨w.heap.size, 1, none⟩ = some (.bool true) := cell_row r1 1
    have y2 : (w.alloc (.cells #[.int .i64 6, .bool true, .int .i64 at_, .int .i64 nn, .slice bo B.length bc, .int .i64 F, .int .i64 C, .slice fo fs.length fc] 59)).cell? ⟨w.heap.size, 2, none⟩ = some (.int .i64 at_) := cell_row r1 2
    have y3 : (w.alloc (.cells #[.int .i64 6, .bool true, .int .i64 at_, .int .i64 nn, .slice bo B.length bc, .int .i64 F, .int .i64 C, .slice fo fs.length fc] 59)).cell? ⟨w.heap.size, 3, none⟩ = some (.int .i64 nn) := cell_row r1 3
    have y4 : (w.alloc (.cells #[.int .i64 6, .bool true, .int .i64 at_, .int .i64 nn, .slice bo B.length bc, .int .i64 F, .int .i64 C, .slice fo fs.length fc] 59)).cell? ⟨w.heap.size, 4, none⟩ = some (.slice bo B.length bc) := cell_row r1 4
    have y5 : (w.alloc (.cells #[.int .i64 6, .bool true, .int .i64 at_, .int .i64 nn, .slice bo B.length bc, .int .i64 F, .int .i64 C, .slice fo fs.length fc] 59)).cell? ⟨w.heap.size, 5, none⟩ = some (.int .i64 F) := cell_row r1 5
    have y6 : (w.alloc (.cells #[.int .i64 6, .bool true, .int .i64 at_, .int .i64 nn, .slice bo B.length bc, .int .i64 F, .int .i64 C, .slice fo fs.length fc] 59)).cell? ⟨w.heap.size, 6, none⟩ = some (.int .i64 C) := cell_row r1 6
    have y7 : (w.alloc (.cells #[.int .i64 6, .bool true, .int .i64 at_, .int .i64 nn, .slice bo B.length bc, .int .i64 F, .int .i64 C, .slice fo fs.length fc] 59)).cell? ⟨w.heap.size, 7, none⟩ = some (.slice fo fs.length fc) := cell_row r1 7
    have c0 := HS.out.c0
    have c1 := HS.out.c1
    have ca := HS.out.c3
    have cb := HS.out.c5
    clear g1 r1
    go_enter Try.func21, Try.ntmps21
    go_wp2_with fail
    generalize w.alloc (.cells #[.int .i64 6, .bool true, .int .i64 at_, .int .i64 nn, .slice bo B.length bc, .int .i64 F, .int .i64 C, .slice fo fs.length fc] 59) = wa at *
    generalize w.heap.size = B1 at *
    go_quiet (fail)
    have HB := hide (HS.out.then (grown_drewN wa nq none))
    have y0 : (wa.drewN nq).cell? ⟨B1, 0, none⟩ = some (.int .i64 6) := y0
    have y2 : (wa.drewN nq).cell? ⟨B1, 2, none⟩ = some (.int .i64 at_) := y2
    have y3 : (wa.drewN nq).cell? ⟨B1, 3, none⟩ = some (.int .i64 nn) := y3
    have y4 : (wa.drewN nq).cell? ⟨B1, 4, none⟩ = some (.slice bo B.length bc) := y4
    have y5 : (wa.drewN nq).cell? ⟨B1, 5, none⟩ = some (.int .i64 F) := y5
    have y6 : (wa.drewN nq).cell? ⟨B1, 6, none⟩ = some (.int .i64 C) := y6
    have y7 : (wa.drewN nq).cell? ⟨B1, 7, none⟩ = some (.slice fo fs.length fc) := y7
    have c0 := HB.out.c0
    have c1 := HB.out.c1
    clear ca cb y1 HS
    generalize wa.drewN nq = wb at *
    go_wp2_with fail
    refine (takes_any HB.out true F C HS0.out.h3).mono ?_
    rintro e w2 ⟨rfl, x', y', h2⟩
    have H2 := hide h2
    clear h2
    go_wp2
    go_ret
    exact ⟨rfl, p, x', y', H2.out, by omega, by omega⟩
end
end Go.Proofs.Ytnonghacjfgnmaa
