/- Texts joined: Vg, Vh. -/
import Derived.Test.YtcbiloomnkbalaaGreatDoorJyAu
/- A book beside the document's: one. -/
namespace Go.Proofs.YtcbiloomnkbalaaGreatDoor
open Go.RowKit
attribute [local go_sem ↓] Go.wp_at_zero Go.wp_at_succ
attribute [local go_sem] Oper.semAt_some
def opc (dd nn : Int) (r : Rc) (id seat : Int) : List Value := [.int .i64 dd, .int .i64 nn, .int .i64 r.k, .int .u32 r.i, .int .i64 r.s, .int .i64 r.u, .int .i64 r.c, .int .u32 id, .int .i64 seat]
/-- What the step makes of a book. -/
def stp (dd : Int) (S : Sb) (r : Rc) : Sb := if dd % 7 = 0 then app S r else S
def OneP (w w' : World) (p : Bp) (lo d : Nat) (v : Value) (S' : Sb) (K : Nat) (e : Ending) : Prop := ∃ q v', e = .returned (.bool true) ∧ Pw w' q lo d v' S' S' (K + 1) ∧ Pst w w' p q d v v'
theorem Pw.more {W : World} {p : Bp} {lo d : Nat} {v : Value} {S T : Sb} {K K' : Nat} (h : Pw W p lo d v S T K) (hk : K ≤ K') : Pw W p lo d v S T K' := ⟨h.bk.mono hk, h.db, h.ap⟩
theorem OneP.of {w W : World} {X : Nat} {cs : List Value} {ty : TypeId} {p0 p : Bp} {lo d : Nat} {v0 v : Value} {S : Sb} {K : Nat} (m : Pm w W X cs ty p0 p lo d v0 v S S K) : OneP w W p0 lo d v0 S K (.returned (.bool true)) := ⟨p, v, rfl, m.pw.more (Nat.le_succ _), m.st⟩
theorem OneP.of1 {w W : World} {X : Nat} {cs : List Value} {ty : TypeId} {p0 p : Bp} {lo d : Nat} {v0 v : Value} {S : Sb} {K : Nat} (m : Pm w W X cs ty p0 p lo d v0 v S S (K + 1)) : OneP w W p0 lo d v0 S K (.returned (.bool true)) := ⟨p, v, rfl, m.pw, m.st⟩
set_option maxRecDepth 20000 in
set_option maxHeartbeats 16000000 in
theorem one_0 {w : World} {p : Bp} {lo d : Nat} {v : Value} {S : Sb} {K : Nat} (h : Pw w p lo d v S S K) (ho : S.Ok) (hK : K ≤ 1000000) (hT : Rk.Tab w) (dd nn id seat : Int) (r : Rc) (hr : r.Ok) (hd : dd % 7 = 0) : Calls Tryz.prog 18 #[.pointer (some ⟨p.b, 0, none⟩), .pointer (some ⟨d, 0, none⟩), opV dd nn r id seat] w fun e w' => OneP w w' p lo d v (app S r) K e := by
  have m0 := Pm.start h (opc dd nn r id seat) 48
  have HA1 : Hid (∀ W, Pm w W w.heap.size (opc dd nn r id seat) 48 p p lo d v v S S K → w.grownBy W none → Calls Tryz.prog 36 #[.pointer (some ⟨p.b, 0, none⟩), Rk.rcV r] W fun e w' => e = .returned (.int .i64 (appE S r)) ∧ ∃ q, Pm w w' w.heap.size (opc dd nn r id seat) 48 p q lo d v v (app S r) S (K + 1)) := fun W m g => by
    refine (apply_any m.pw.bk ho (by omega) r hr (hT.grown g (by simp))).mono ?_
    rintro e w' ⟨rfl, q, h1, h2⟩
    exact ⟨rfl, q, m.book h1 h2⟩
  have HA2 : Hid (∀ W q, Pm w W w.heap.size (opc dd nn r id seat) 48 p q lo d v v (app S r) S (K + 1) → Calls Tryz.prog 44 #[.pointer (some ⟨d, 0, none⟩), Rk.rcV r] W fun e w' => e = .returned (.int .i64 (appE S r)) ∧ ∃ v', Pm w w' w.heap.size (opc dd nn r id seat) 48 p q lo d v v' (app S r) (app S r) (K + 1)) := fun W q m => by
    refine (dapply_any m.pw.db ho r hr).mono ?_
    rintro e w' ⟨v', rfl, h1, h2⟩
    exact ⟨rfl, v', m.docs h1 h2⟩
  have HK : Hid (∀ W p' v' S' T' K', Pm w W w.heap.size (opc dd nn r id seat) 48 p p' lo d v v' S' T' K' → W.cell? ⟨w.heap.size, 2, none⟩ = some (.int .i64 r.k) ∧ W.cell? ⟨w.heap.size, 3, none⟩ = some (.int .u32 r.i) ∧ W.cell? ⟨w.heap.size, 4, none⟩ = some (.int .i64 r.s) ∧ W.cell? ⟨w.heap.size, 5, none⟩ = some (.int .i64 r.u) ∧ W.cell? ⟨w.heap.size, 6, none⟩ = some (.int .i64 r.c)) := fun W p' v' S' T' K' m => ⟨m.cell 2 _ rfl, m.cell 3 _ rfl, m.cell 4 _ rfl, m.cell 5 _ rfl, m.cell 6 _ rfl⟩
  have hK0 := HK.out _ _ _ _ _ _ m0
  have x0 := m0.cell 0 _ rfl
  have HE : Hid (∀ W q v', Pm w W w.heap.size (opc dd nn r id seat) 48 p q lo d v v' (app S r) (app S r) (K + 1) → OneP w W p lo d v (app S r) K (.returned (.bool true))) := fun W q v' m => OneP.of1 m
  have HP := hide (fun W => pick7 dd 0 W hd)
  have g0 := grown_alloc w (.cells (opc dd nn r id seat).toArray 48)
  obtain ⟨er, her⟩ : ∃ er, appE S r = er := ⟨_, rfl⟩
  rw [her] at HA1 HA2
  generalize app S r = S1 at *
  clear h ho hK hT hr hd her
  unfold opV
  obtain ⟨k, i, s, u, c⟩ := r
  unfold Rk.rcV at HA1 HA2
  simp only [opc] at *
  generalize OneP w = P at *
  go_enter Tryz.func18, Tryz.ntmps18
  go_wp2_with fail
  refine (HP.out _).mono ?_
  rintro e w1 ⟨rfl, rfl⟩
  go_wp2
  generalize hw0 : w.alloc _ = w0 at *
  have HW0 := hide hw0
  clear hw0
  have m1 := m0.then (grown_drew w0 none)
  have g1 := grown_trans g0 (grown_drew w0 none)
  go_region_held3 (fun W => W.cell? ⟨w.heap.size, 2, none⟩ = some (.int .i64 k) ∧ W.cell? ⟨w.heap.size, 3, none⟩ = some (.int .u32 i) ∧ W.cell? ⟨w.heap.size, 4, none⟩ = some (.int .i64 s) ∧ W.cell? ⟨w.heap.size, 5, none⟩ = some (.int .i64 u) ∧ W.cell? ⟨w.heap.size, 6, none⟩ = some (.int .i64 c)) (first | assumption | exact hK0)
    ((first
      | (go_at_call 36; refine (HA1.out _ m1 g1).mono ?_; rintro e w5 ⟨rfl, q, m5⟩; have hK5 := HK.out _ _ _ _ _ _ m5)
      | (go_at_call 44; refine (HA2.out _ _ m5).mono ?_; rintro e w6 ⟨rfl, v6, m6⟩; have hK6 := HK.out _ _ _ _ _ _ m6)))
  have HZ := hide (HE.out _ _ _ m6)
  go_wp2
  exact HZ.out
section
variable {w : World} {p : Bp} {lo d : Nat} {v : Value} {S : Sb} {K : Nat}
set_option maxRecDepth 20000 in
set_option maxHeartbeats 16000000 in
theorem one_1 (h : Pw w p lo d v S S K) (ho : S.Ok) (dd nn seat : Int) (id : Nat) (hi : id < 4294967296) (r : Rc) (hd : dd % 7 = 1) : Calls Tryz.prog 18 #[.pointer (some ⟨p.b, 0, none⟩), .pointer (some ⟨d, 0, none⟩), opV dd nn r (id : Int) seat] w fun e w' => OneP w w' p lo d v S K e := by
  have hL : S.L.length ≤ 65536 := by have := ho.few; have := ho.b1; omega
  have m0 := Pm.start h (opc dd nn r (id : Int) seat) 48
  obtain ⟨E, hE⟩ : ∃ E : Int, E = if (fnd S.L id).isSome then 0 else 171 := ⟨_, rfl⟩
  obtain ⟨B, hB⟩ : ∃ B, B = (fnd S.L id).getD ⟨0, 0, 0⟩ := ⟨_, rfl⟩
  have HA1 : Hid (∀ W, Pm w W w.heap.size (opc dd nn r (id : Int) seat) 48 p p lo d v v S S K → Calls Tryz.prog 29 #[.pointer (some ⟨p.b, 0, none⟩), .int .u32 (id : Int)] W fun e w' => e = .returned (.tuple #[bgV B, .int .i64 E]) ∧ Pm w w' w.heap.size (opc dd nn r (id : Int) seat) 48 p p lo d v v S S K) := fun W m => by
    have := get_any m.pw.bk ho.wk id hi
    rw [← hE, ← hB] at this
    refine this.mono ?_
    rintro e w' ⟨rfl, h1, h2⟩
    exact ⟨rfl, m.book h1 (Bst.keep h2)⟩
  have HA2 : Hid (∀ W, Pm w W w.heap.size (opc dd nn r (id : Int) seat) 48 p p lo d v v S S K → Calls Tryz.prog 45 #[.pointer (some ⟨d, 0, none⟩), .int .u32 (id : Int)] W fun e w' => e = .returned (.tuple #[bgV B, .int .i64 E]) ∧ W.grownBy w' none) := fun W m => by
    have := dget_any m.pw.db ho.asc hL id
    rw [← hE, ← hB] at this
    exact this
  have HE : Hid (∀ W, Pm w W w.heap.size (opc dd nn r (id : Int) seat) 48 p p lo d v v S S K → OneP w W p lo d v S K (.returned (.bool true))) := fun W m => OneP.of m
  have HC : Hid (∀ W, Pm w W w.heap.size (opc dd nn r (id : Int) seat) 48 p p lo d v v S S K → W.cell? ⟨w.heap.size, 7, none⟩ = some (.int .u32 (id : Int))) := fun W m => m.cell 7 _ rfl
  have x0 := m0.cell 0 _ rfl
  have x7 := HC.out _ m0
  have HP := hide (fun W => pick7 dd 1 W hd)
  clear h ho hL hd hE hB hi
  obtain ⟨bi, bs, bu⟩ := B
  unfold bgV at HA1 HA2
  unfold opV
  simp only [opc] at *
  have M0 := hide m0
  clear m0
  generalize OneP w = P at *
  go_enter Tryz.func18, Tryz.ntmps18
  go_wp2_with fail
  refine (HP.out _).mono ?_
  rintro e w1 ⟨rfl, rfl⟩
  go_wp2_with fail
  refine (HA1.out _ M0.out).mono ?_
  rintro e w2 ⟨rfl, m2⟩
  have M2 := hide (m2.then (grown_alloc w2 (.cells #[.int .u32 (bi : Int), .int .i64 (bs : Int), .int .i64 bu] 78)))
  have y7 := HC.out _ M2.out
  have HB1 := hide (heap_alloc_new w2 (.cells [.int .u32 (bi : Int), .int .i64 (bs : Int), .int .i64 bu].toArray 78))
  clear x0 x7 m2 M0
  go_wp2_with fail
  refine (HA2.out _ M2.out).mono ?_
  rintro e w3 ⟨rfl, hg3⟩
  have g3 := grown_trans hg3 (grown_alloc w3 (.cells #[.int .u32 (bi : Int), .int .i64 (bs : Int), .int .i64 bu] 78))
  have HX := hide (HE.out _ (M2.out.then g3))
  have hb3 := (g3.block _ (row_lt HB1.out) (by simp)).trans HB1.out
  obtain ⟨z0, z1, z2, -⟩ := box3 hb3
  clear hb3 y7 g3 hg3
  go_wp2
  exact HX.out
set_option maxRecDepth 20000 in
set_option maxHeartbeats 16000000 in
theorem one_2 (h : Pw w p lo d v S S K) (ho : S.Ok) (dd nn seat id : Int) (r : Rc) (hd : dd % 7 = 2) : Calls Tryz.prog 18 #[.pointer (some ⟨p.b, 0, none⟩), .pointer (some ⟨d, 0, none⟩), opV dd nn r id seat] w fun e w' => OneP w w' p lo d v S K e := by
  have hL : S.L.length ≤ 65536 := by have := ho.few; have := ho.b1; omega
  have m0 := Pm.start h (opc dd nn r id seat) 48
  obtain ⟨E, hE⟩ : ∃ E : Int, E = atE S seat := ⟨_, rfl⟩
  obtain ⟨B, hB⟩ : ∃ B, B = atX S seat := ⟨_, rfl⟩
  have HA1 : Hid (∀ W, Pm w W w.heap.size (opc dd nn r id seat) 48 p p lo d v v S S K → Calls Tryz.prog 30 #[.pointer (some ⟨p.b, 0, none⟩), .int .i64 seat] W fun e w' => e = .returned (.tuple #[bgV B, .int .i64 E]) ∧ W.grownBy w' none) := fun W m => by
    have := at_any m.pw.bk ho.wk seat
    rw [← hE, ← hB] at this
    exact this
  have HA2 : Hid (∀ W, Pm w W w.heap.size (opc dd nn r id seat) 48 p p lo d v v S S K → Calls Tryz.prog 46 #[.pointer (some ⟨d, 0, none⟩), .int .i64 seat] W fun e w' => e = .returned (.tuple #[bgV B, .int .i64 E]) ∧ W.grownBy w' none) := fun W m => by
    have := dat_any m.pw.db ho.one ho.st hL seat
    rw [← hE, ← hB] at this
    exact this
  have HE : Hid (∀ W, Pm w W w.heap.size (opc dd nn r id seat) 48 p p lo d v v S S K → OneP w W p lo d v S K (.returned (.bool true))) := fun W m => OneP.of m
  have HC : Hid (∀ W, Pm w W w.heap.size (opc dd nn r id seat) 48 p p lo d v v S S K → W.cell? ⟨w.heap.size, 8, none⟩ = some (.int .i64 seat)) := fun W m => m.cell 8 _ rfl
  have x0 := m0.cell 0 _ rfl
  have x7 := HC.out _ m0
  have HP := hide (fun W => pick7 dd 2 W hd)
  clear h ho hL hd hE hB
  obtain ⟨bi, bs, bu⟩ := B
  unfold bgV at HA1 HA2
  unfold opV
  simp only [opc] at *
  have M0 := hide m0
  clear m0
  generalize OneP w = P at *
  go_enter Tryz.func18, Tryz.ntmps18
  go_wp2_with fail
  refine (HP.out _).mono ?_
  rintro e w1 ⟨rfl, rfl⟩
  go_wp2_with fail
  refine (HA1.out _ M0.out).mono ?_
  rintro e w2 ⟨rfl, hg2⟩
  have M2 := hide ((M0.out.then hg2).then (grown_alloc w2 (.cells #[.int .u32 (bi : Int), .int .i64 (bs : Int), .int .i64 bu] 78)))
  have y7 := HC.out _ M2.out
  have HB1 := hide (heap_alloc_new w2 (.cells [.int .u32 (bi : Int), .int .i64 (bs : Int), .int .i64 bu].toArray 78))
  clear x0 x7 hg2 M0
  go_wp2_with fail
  refine (HA2.out _ M2.out).mono ?_
  rintro e w3 ⟨rfl, hg3⟩
  have g3 := grown_trans hg3 (grown_alloc w3 (.cells #[.int .u32 (bi : Int), .int .i64 (bs : Int), .int .i64 bu] 78))
  have HX := hide (HE.out _ (M2.out.then g3))
  have hb3 := (g3.block _ (row_lt HB1.out) (by simp)).trans HB1.out
  obtain ⟨z0, z1, z2, -⟩ := box3 hb3
  clear hb3 y7 g3 hg3
  go_wp2
  exact HX.out
set_option maxRecDepth 20000 in
set_option maxHeartbeats 16000000 in
theorem one_34 (h : Pw w p lo d v S S K) (ho : S.Ok) (dd nn seat id : Int) (r : Rc) (hd : dd % 7 = 3 ∨ dd % 7 = 4) : Calls Tryz.prog 18 #[.pointer (some ⟨p.b, 0, none⟩), .pointer (some ⟨d, 0, none⟩), opV dd nn r id seat] w fun e w' => OneP w w' p lo d v S K e := by
  have m0 := Pm.start h (opc dd nn r id seat) 48
  have HI : Hid (∀ W, Pm w W w.heap.size (opc dd nn r id seat) 48 p p lo d v v S S K → Calls Tryz.prog 24 #[.pointer (some ⟨p.b, 0, none⟩), .pointer (some ⟨d, 0, none⟩)] W fun e w' => e = .returned (.bool true) ∧ OneP w w' p lo d v S K (.returned (.bool true))) := fun W m => by
    refine (is_yes m.pw ho).mono ?_
    rintro e w' ⟨rfl, h1, h2⟩
    exact ⟨rfl, OneP.of (m.moved h1 (m.pw.book h1.bk (Bst.keep h2)).2)⟩
  have x0 := m0.cell 0 _ rfl
  have M0 := hide m0
  clear h ho m0
  unfold opV
  simp only [opc] at *
  generalize OneP w = P at *
  rcases hd with hd | hd
  · have HP := hide (fun W => pick7 dd 3 W hd)
    clear hd
    go_enter Tryz.func18, Tryz.ntmps18
    go_wp2_with fail
    refine (HP.out _).mono ?_
    rintro e w1 ⟨rfl, rfl⟩
    go_wp2_with fail
    refine (HI.out _ M0.out).mono ?_
    rintro e w2 ⟨rfl, hx⟩
    have HX := hide hx
    clear hx
    go_wp2
    exact HX.out
  · have HP := hide (fun W => pick7 dd 4 W hd)
    clear hd
    go_enter Tryz.func18, Tryz.ntmps18
    go_wp2_with fail
    refine (HP.out _).mono ?_
    rintro e w1 ⟨rfl, rfl⟩
    go_wp2_with fail
    refine (HI.out _ M0.out).mono ?_
    rintro e w2 ⟨rfl, hx⟩
    have HX := hide hx
    clear hx
    go_wp2
    exact HX.out
set_option maxRecDepth 20000 in
set_option maxHeartbeats 16000000 in
theorem one_5 (h : Pw w p lo d v S S K) (ho : S.Ok) (dd nn seat id : Int) (r : Rc) (hd : dd % 7 = 5) : Calls Tryz.prog 18 #[.pointer (some ⟨p.b, 0, none⟩), .pointer (some ⟨d, 0, none⟩), opV dd nn r id seat] w fun e w' => OneP w w' p lo d v S K e := by
  have m0 := Pm.start h (opc dd nn r id seat) 48
  have HS : Hid (∀ W, Pm w W w.heap.size (opc dd nn r id seat) 48 p p lo d v v S S K → Calls Tryz.prog 20 #[.pointer (some ⟨p.b, 0, none⟩), .pointer (some ⟨p.b, 0, none⟩)] W fun e w' => e = .returned (.bool true) ∧ Pm w w' w.heap.size (opc dd nn r id seat) 48 p p lo d v v S S K) := fun W m => by
    refine (same_eq m.pw.bk m.pw.bk ho.wk).mono ?_
    rintro e w' ⟨rfl, g⟩
    exact ⟨rfl, m.then g⟩
  have HE : Hid (∀ W, Pm w W w.heap.size (opc dd nn r id seat) 48 p p lo d v v S S K → OneP w W p lo d v S K (.returned (.bool true))) := fun W m => OneP.of m
  have HK : Hid (∀ W, Pm w W w.heap.size (opc dd nn r id seat) 48 p p lo d v v S S K → W.cell? ⟨d, 0, none⟩ = some (.bool true)) := fun W m => m.pw.db.cell rfl
  have x0 := m0.cell 0 _ rfl
  have HP := hide (fun W => pick7 dd 5 W hd)
  have r0 := HK.out _ m0
  clear h ho hd
  unfold opV
  simp only [opc] at *
  generalize OneP w = P at *
  go_enter Tryz.func18, Tryz.ntmps18
  go_wp2_with fail
  refine (HP.out _).mono ?_
  rintro e w1 ⟨rfl, rfl⟩
  go_wp2
  generalize hw0 : w.alloc _ = w0 at *
  have HW0 := hide hw0
  clear hw0
  have m1 := m0.then (grown_drew w0 none)
  go_region_held3 (fun W => W.cell? ⟨d, 0, none⟩ = some (.bool true)) (first | assumption | exact r0)
    ((go_at_call 20; refine (HS.out _ m1).mono ?_; rintro e w5 ⟨rfl, m5⟩; have r5 := HK.out _ m5))
  have HZ := hide (HE.out _ m5)
  go_wp2
  exact HZ.out
theorem neq31Nil (w : World) (X : Nat) : (binOp .neq 31 (.pointer (some ⟨X, 0, none⟩)) (.pointer none)).run Tryz.prog w = .ok (.bool true) w := by kernel_rfl
set_option maxRecDepth 20000 in
set_option maxHeartbeats 16000000 in
theorem one_6 (h : Pw w p lo d v S S K) (ho : S.Ok) (dd nn seat id : Int) (r : Rc) (hd : dd % 7 = 6) : Calls Tryz.prog 18 #[.pointer (some ⟨p.b, 0, none⟩), .pointer (some ⟨d, 0, none⟩), opV dd nn r id seat] w fun e w' => OneP w w' p lo d v S K e := by
  have m0 := Pm.start h (opc dd nn r id seat) 48
  have HS : Hid (∀ W, Pm w W w.heap.size (opc dd nn r id seat) 48 p p lo d v v S S K → Calls Tryz.prog 22 #[.pointer (some ⟨p.b, 0, none⟩)] W fun e w' => ∃ x, e = .returned (.pointer (some ⟨x, 0, none⟩)) ∧ Pm w w' w.heap.size (opc dd nn r id seat) 48 p p lo d v v S S K) := fun W m => by
    refine (copy_any m.pw.bk ho.wk).mono ?_
    rintro e w' ⟨q, rfl, -, g, -⟩
    exact ⟨q.b, rfl, m.then g⟩
  have HE : Hid (∀ W, Pm w W w.heap.size (opc dd nn r id seat) 48 p p lo d v v S S K → OneP w W p lo d v S K (.returned (.bool true))) := fun W m => OneP.of m
  have HK : Hid (∀ W, Pm w W w.heap.size (opc dd nn r id seat) 48 p p lo d v v S S K → W.cell? ⟨d, 0, none⟩ = some (.bool true)) := fun W m => m.pw.db.cell rfl
  have x0 := m0.cell 0 _ rfl
  have HP := hide (fun W => pick7 dd 6 W hd)
  have r0 := HK.out _ m0
  have hnq := neq31Nil
  clear h ho hd
  unfold opV
  simp only [opc] at *
  generalize OneP w = P at *
  go_enter Tryz.func18, Tryz.ntmps18
  go_wp2_with fail
  refine (HP.out _).mono ?_
  rintro e w1 ⟨rfl, rfl⟩
  go_wp2
  generalize hw0 : w.alloc _ = w0 at *
  have HW0 := hide hw0
  clear hw0
  have m1 := m0.then (grown_drew w0 none)
  go_region_held3 (fun W => W.cell? ⟨d, 0, none⟩ = some (.bool true)) (first | assumption | exact r0)
    ((go_at_call 22; refine (HS.out _ m1).mono ?_; rintro e w5 ⟨x, rfl, m5⟩; have r5 := HK.out _ m5))
  have HZ := hide (HE.out _ m5)
  go_wp2
  exact HZ.out
/-- Any step. -/
theorem one_yes (h : Pw w p lo d v S S K) (ho : S.Ok) (hK : K ≤ 1000000) (hT : Rk.Tab w) (dd nn seat : Int) (id : Nat) (hi : id < 4294967296) (r : Rc) (hr : r.Ok) : Calls Tryz.prog 18 #[.pointer (some ⟨p.b, 0, none⟩), .pointer (some ⟨d, 0, none⟩), opV dd nn r (id : Int) seat] w fun e w' => OneP w w' p lo d v (stp dd S r) K e := by
  unfold stp
  rcases mod7 dd with hd | hd | hd | hd | hd | hd
  · rw [if_pos hd]; exact one_0 h ho hK hT dd nn id seat r hr hd
  · rw [if_neg (by omega)]; exact one_1 h ho dd nn seat id hi r hd
  · rw [if_neg (by omega)]; exact one_2 h ho dd nn seat id r hd
  · rw [if_neg (by omega)]; exact one_34 h ho dd nn seat id r hd
  · rw [if_neg (by omega)]; exact one_5 h ho dd nn seat id r hd
  · rw [if_neg (by omega)]; exact one_6 h ho dd nn seat id r hd
end
end Go.Proofs.YtcbiloomnkbalaaGreatDoor
/- Two books beside the document's, and boxes of a law's own. -/
namespace Go.Proofs.YtcbiloomnkbalaaGreatDoor
open Go.RowKit
attribute [local go_sem ↓] Go.wp_at_zero Go.wp_at_succ
attribute [local go_sem] Oper.semAt_some
theorem stp_ab (dd : Int) (S : Sb) (r : Rc) : (stp dd S r).a = S.a ∧ (stp dd S r).b = S.b := by
  unfold stp
  split
  · unfold app
    split
    · unfold appS
      repeat' split
      all_goals exact ⟨rfl, rfl⟩
    · exact ⟨rfl, rfl⟩
  · exact ⟨rfl, rfl⟩
theorem stp_ok {dd : Int} {S : Sb} {r : Rc} (h : S.Ok) : (stp dd S r).Ok := by
  unfold stp
  split
  · exact h.app r
  · exact h
/-- One of a law's books beside the document's: both are there, or none is. -/
structure Sd (w W : World) (ao : Option Addr) (d : Nat) (a b : Nat) (o : Option Sb) (K : Nat) (X : Nat → Prop) : Prop where
  ge : ∀ i, X i → w.heap.size ≤ i
  no : o = none → ao = none ∧ RfZ W d ∧ X = (fun i => i = d)
  yes : ∀ S, o = some S → S.Ok ∧ S.a = a ∧ S.b = b ∧ ∃ p v lo, ao = some ⟨p.b, 0, none⟩ ∧ Pw W p lo d v S S K ∧ X = Po p d v
section
variable {w W W' : World} {ao bo : Option Addr} {d d' a b : Nat} {o o' : Option Sb} {K K' : Nat} {X Y X' : Nat → Prop}
theorem Sd.lt (h : Sd w W ao d a b o K X) : ∀ i, X i → i < W.heap.size := by
  cases o with
  | none =>
    obtain ⟨-, h1, rfl⟩ := h.no rfl
    rintro i rfl
    exact row_lt h1.at_
  | some S =>
    obtain ⟨-, -, -, p, v, lo, -, h1, rfl⟩ := h.yes S rfl
    exact h1.lt
theorem Sd.far (h : Sd w W ao d a b o K X) (k : Kept W W' Y) (hY : ∀ i, X i → ¬ Y i) : Sd w W' ao d a b o K X := by
  refine ⟨h.ge, fun e => ?_, fun S e => ?_⟩
  · obtain ⟨h1, h2, h3⟩ := h.no e
    exact ⟨h1, ⟨k.at h2.at_ (hY d (by rw [h3]))⟩, h3⟩
  · obtain ⟨h1, h2, h3, p, v, lo, h4, h5, h6⟩ := h.yes S e
    exact ⟨h1, h2, h3, p, v, lo, h4, h5.far k (fun i hi => hY i (by rw [h6]; exact hi)), h6⟩
theorem Sd.then (h : Sd w W ao d a b o K X) (g : W.grownBy W' none) : Sd w W' ao d a b o K X := h.far (Kept.new g (fun _ => False)) (fun _ _ e => e)
theorem Sd.more (h : Sd w W ao d a b o K X) (hk : K ≤ K') : Sd w W ao d a b o K' X := by
  refine ⟨h.ge, h.no, fun S e => ?_⟩
  obtain ⟨h1, h2, h3, p, v, lo, h4, h5, h6⟩ := h.yes S e
  exact ⟨h1, h2, h3, p, v, lo, h4, h5.more hk, h6⟩
theorem Sd.there (h : Sd w W ao d a b o K X) : W.cell? ⟨d, 0, none⟩ = some (.bool o.isSome) := by
  cases o with
  | none => exact (h.no rfl).2.1.cell 0 _ rfl
  | some S =>
    obtain ⟨-, -, -, p, v, lo, -, h1, -⟩ := h.yes S rfl
    exact h1.db.cell rfl
/-- What a call on one side does. -/
def Sdp (w W w' : World) (ao : Option Addr) (d a b : Nat) (o : Option Sb) (K : Nat) (X : Nat → Prop) : Prop := ∃ X', Sd w w' ao d a b o K X' ∧ Kept W w' X ∧ ∀ i, X' i → X i ∨ W.heap.size ≤ i
theorem Sd.one (h : Sd w W ao d a b o K X) (g : w.grownBy W none) (hK : K ≤ 1000000) (hT : Rk.Tab w) (dd nn seat : Int) (id : Nat) (hi : id < 4294967296) (r : Rc) (hr : r.Ok) : Calls Tryz.prog 18 #[.pointer ao, .pointer (some ⟨d, 0, none⟩), opV dd nn r (id : Int) seat] W fun e w' => e = .returned (.bool true) ∧ Sdp w W w' ao d a b (o.map fun S => stp dd S r) (K + 1) X := by
  cases o with
  | none =>
    obtain ⟨rfl, h2, h3⟩ := h.no rfl
    refine (one_none (noB_nil W) h2 dd nn (id : Int) seat r).mono ?_
    rintro e w' ⟨rfl, g2⟩
    exact ⟨rfl, X, (h.then g2).more (Nat.le_succ _), Kept.new g2 _, fun i e => .inl e⟩
  | some S =>
    obtain ⟨h1, h2, h3, p, v, lo, rfl, h5, rfl⟩ := h.yes S rfl
    refine (one_yes h5 h1 hK (hT.grown g (by simp)) dd nn seat id hi r hr).mono ?_
    rintro e w' ⟨q, v', rfl, k1, k2⟩
    refine ⟨rfl, Po q d v', ⟨fun i e => ?_, (fun e => by cases e), fun T e => ?_⟩, k2.kept, k2.own⟩
    · rcases k2.own i e with e | e
      · exact h.ge i e
      · exact Nat.le_trans g.size e
    · cases e
      have hs := stp_ab dd S r
      exact ⟨stp_ok h1, hs.1.trans h2, hs.2.trans h3, q, v', lo, by rw [k2.b], k1, rfl⟩
theorem Sd.may {S : Sb} (h : Sd w W ao d a b (some S) K X) : Calls Tryz.prog 19 #[.pointer (some ⟨d, 0, none⟩)] W fun e w' => e = .returned (.bool true) ∧ W.grownBy w' none := by
  obtain ⟨ho, -, -, p, v, lo, -, h1, -⟩ := h.yes S rfl
  have hx := okX_of ho
  have hw : Dw W lo d v S.a S.b S.c S.n S.t (S.L.map Bg.bw) := by
    refine ⟨h1.db.head, ?_, h1.db.ge⟩
    have hr := h1.db.row
    have e : bwcs (S.L.map Bg.bw) = bgs S.L := by
      have := bgs_bw (Y := S.L.map Bg.bw) (fun y hy => by obtain ⟨z, -, rfl⟩ := List.mem_map.1 hy; simp only [Bg.bw]; omega)
      rw [← this, List.map_map]
      congr 1
      have : (Bw.bg ∘ Bg.bw) = id := by funext x; rfl
      rw [this, List.map_id]
    rw [e, List.length_map]
    exact hr
  refine (rmayG hw ho.a1 (by rw [List.length_map]; have := ho.few; have := ho.b1; omega)).mono ?_
  rintro e w' ⟨r, rfl, hr, g⟩
  have : r = true := hr.2 ⟨⟨ho.n0, ho.t0, ho.t1⟩, hx⟩
  subst this
  exact ⟨rfl, g⟩
theorem Sd.is (h : Sd w W ao d a b o K X) : Calls Tryz.prog 24 #[.pointer ao, .pointer (some ⟨d, 0, none⟩)] W fun e w' => e = .returned (.bool true) ∧ Sd w w' ao d a b o K X ∧ Kept W w' X := by
  cases o with
  | none =>
    obtain ⟨rfl, h2, h3⟩ := h.no rfl
    refine (is_none (noB_nil W) h2).mono ?_
    rintro e w' ⟨rfl, g2⟩
    exact ⟨rfl, h.then g2, Kept.new g2 _⟩
  | some S =>
    obtain ⟨h1, h2, h3, p, v, lo, rfl, h5, rfl⟩ := h.yes S rfl
    refine (is_yes h5 h1).mono ?_
    rintro e w' ⟨rfl, k1, k2⟩
    exact ⟨rfl, ⟨h.ge, (fun e => by cases e), fun T e => by cases e; exact ⟨h1, h2, h3, p, v, lo, rfl, k1, rfl⟩⟩, k2.mono (fun i _ e => .inl e)⟩
/-- Whether two of them are the same. -/
def sameO (o o' : Option Sb) : Bool := match o, o' with | some S, some T => sameS S T | _, _ => false
theorem Sd.same (h : Sd w W ao d a b o K X) (h' : Sd w W bo d' a b o' K' X') : Calls Tryz.prog 20 #[.pointer ao, .pointer bo] W fun e w' => e = .returned (.bool (sameO o o')) ∧ W.grownBy w' none := by
  cases o with
  | none =>
    obtain ⟨rfl, -, -⟩ := h.no rfl
    refine (no_same1 (noB_nil W) _).mono ?_
    rintro e w' ⟨rfl, rfl⟩
    exact ⟨rfl, grown_refl _ _⟩
  | some S =>
    obtain ⟨h1, h2, h3, p, v, lo, rfl, h5, rfl⟩ := h.yes S rfl
    cases o' with
    | none =>
      obtain ⟨rfl, -, -⟩ := h'.no rfl
      refine (no_same2 h5.bk (noB_nil W)).mono ?_
      rintro e w' ⟨rfl, rfl⟩
      exact ⟨rfl, grown_refl _ _⟩
    | some T =>
      obtain ⟨k1, k2, k3, q, u, lo', rfl, k5, rfl⟩ := h'.yes T rfl
      exact same_any h5.bk k5.bk h1.wk k1.wk (by rw [k2, h2]) (by rw [k3, h3])
end
set_option maxRecDepth 100000 in
set_option maxHeartbeats 8000000 in
theorem dsame_no1 {w : World} {d d' : Nat} (h : w.cell? ⟨d, 0, none⟩ = some (.bool false)) (h' : ∃ t, w.cell? ⟨d', 0, none⟩ = some (.bool t)) : Calls Tryz.prog 21 #[.pointer (some ⟨d, 0, none⟩), .pointer (some ⟨d', 0, none⟩)] w fun e w' => e = .returned (.bool false) ∧ w.grownBy w' none := by
  obtain ⟨t, ht⟩ := h'
  go_enter Tryz.func21, Tryz.ntmps21
  go_wp2_with fail
  refine wp_region_quiet_lit (by kernel_rfl) (by kernel_rfl) ?_
  simp only [List.append]
  repeat (go_big_quiet_step (fail))
  refine wpQuiet_nil ?_
  intro _ hw'
  obtain ⟨nq, hw''⟩ := hw'
  subst hw''
  go_wp2
  go_ret
  exact ⟨rfl, grown_drewN _ _ _⟩
set_option maxRecDepth 100000 in
set_option maxHeartbeats 8000000 in
theorem dsame_no2 {w : World} {d d' : Nat} (h : w.cell? ⟨d, 0, none⟩ = some (.bool true)) (h' : w.cell? ⟨d', 0, none⟩ = some (.bool false)) : Calls Tryz.prog 21 #[.pointer (some ⟨d, 0, none⟩), .pointer (some ⟨d', 0, none⟩)] w fun e w' => e = .returned (.bool false) ∧ w.grownBy w' none := by
  go_enter Tryz.func21, Tryz.ntmps21
  go_wp2_with fail
  refine wp_region_quiet_lit (by kernel_rfl) (by kernel_rfl) ?_
  simp only [List.append]
  repeat (go_big_quiet_step (fail))
  refine wpQuiet_nil ?_
  intro _ hw'
  obtain ⟨nq, hw''⟩ := hw'
  subst hw''
  go_wp2
  go_ret
  exact ⟨rfl, grown_drewN _ _ _⟩
section
variable {w W W' : World} {ao bo : Option Addr} {d d' a b : Nat} {o o' : Option Sb} {K K' : Nat} {X X' : Nat → Prop}
theorem Sd.dsame (h : Sd w W ao d a b o K X) (h' : Sd w W bo d' a b o' K' X') : Calls Tryz.prog 21 #[.pointer (some ⟨d, 0, none⟩), .pointer (some ⟨d', 0, none⟩)] W fun e w' => e = .returned (.bool (sameO o o')) ∧ W.grownBy w' none := by
  cases o with
  | none => exact dsame_no1 h.there ⟨_, h'.there⟩
  | some S =>
    cases o' with
    | none => exact dsame_no2 h.there h'.there
    | some T =>
      obtain ⟨h1, h2, h3, p, v, lo, -, h5, -⟩ := h.yes S rfl
      obtain ⟨k1, k2, k3, q, u, lo', -, k5, -⟩ := h'.yes T rfl
      exact dsame_any h5.db k5.db (by rw [k2, h2]) (by rw [k3, h3]) (by have := h1.few; have := h1.b1; omega)
/-- Copies of both: another side. -/
theorem Sd.copied {w5 w6 : World} {S : Sb} {q : Bp} {d2 : Nat} {v2 : Value} (h : Sd w W ao d a b (some S) K X) (g : w.grownBy W none) (hq : BkAt w5 q S 4096) (g5 : W.grownBy w5 none) (hqo : ∀ i, q.own i → W.heap.size ≤ i) (hd : Db w6 w5.heap.size d2 v2 S) (g6 : w5.grownBy w6 none) (hK : 4096 ≤ K) : ∃ X2, Sd w w6 (some ⟨q.b, 0, none⟩) d2 a b (some S) K X2 ∧ ∀ i, X2 i → W.heap.size ≤ i := by
  obtain ⟨h1, h2, h3, -⟩ := h.yes S rfl
  have hge : ∀ i, Po q d2 v2 i → W.heap.size ≤ i := by
    rintro i (e | e)
    · exact hqo i e
    · exact Nat.le_trans g5.size (hd.lows i e)
  exact ⟨Po q d2 v2, ⟨fun i e => Nat.le_trans g.size (hge i e), (fun e => by cases e), fun T e => by
    cases e
    exact ⟨h1, h2, h3, q, v2, _, rfl, ⟨(hq.then g6).mono hK, hd, fun i e1 e2 => by have := hq.lt i e1; have := hd.lows i e2; omega⟩, rfl⟩⟩, hge⟩
end
/-- A law's two books, the document's, and boxes of its own. -/
structure Gs (w W : World) (pa pb : Option Addr) (da db a b : Nat) (oa ob : Option Sb) (K : Nat) (XA XB : Nat → Prop) (Bs : List (Nat × List Value × TypeId)) : Prop where
  sa : Sd w W pa da a b oa K XA
  sb : Sd w W pb db a b ob K XB
  ap : ∀ i, XA i → ¬ XB i
  gr : w.grownBy W none
  bx : ∀ x ∈ Bs, W.heap[x.1]? = some (.cells x.2.1.toArray x.2.2 (0, 0)) ∧ ¬ XA x.1 ∧ ¬ XB x.1 ∧ w.heap.size ≤ x.1
section
variable {w W W' : World} {pa pb pa' : Option Addr} {da db a b da' : Nat} {oa ob oa' : Option Sb} {K K' : Nat} {XA XB XA' : Nat → Prop} {Bs Cs : List (Nat × List Value × TypeId)}
theorem Gs.swap (h : Gs w W pa pb da db a b oa ob K XA XB Bs) : Gs w W pb pa db da a b ob oa K XB XA Bs :=
  ⟨h.sb, h.sa, fun i e1 e2 => h.ap i e2 e1, h.gr, fun x hx => ⟨(h.bx x hx).1, (h.bx x hx).2.2.1, (h.bx x hx).2.1, (h.bx x hx).2.2.2⟩⟩
theorem Gs.then (h : Gs w W pa pb da db a b oa ob K XA XB Bs) (g : W.grownBy W' none) : Gs w W' pa pb da db a b oa ob K XA XB Bs :=
  ⟨h.sa.then g, h.sb.then g, h.ap, grown_trans h.gr g, fun x hx => ⟨(g.block _ (row_lt (h.bx x hx).1) (by simp)).trans (h.bx x hx).1, (h.bx x hx).2⟩⟩
theorem Gs.sub (h : Gs w W pa pb da db a b oa ob K XA XB Bs) (hs : ∀ x ∈ Cs, x ∈ Bs) : Gs w W pa pb da db a b oa ob K XA XB Cs := ⟨h.sa, h.sb, h.ap, h.gr, fun x hx => h.bx x (hs x hx)⟩
theorem Gs.more (h : Gs w W pa pb da db a b oa ob K XA XB Bs) (hk : K ≤ K') : Gs w W pa pb da db a b oa ob K' XA XB Bs := ⟨h.sa.more hk, h.sb.more hk, h.ap, h.gr, h.bx⟩
theorem Gs.box (h : Gs w W pa pb da db a b oa ob K XA XB Bs) (cs : List Value) (ty : TypeId) : Gs w (W.alloc (.cells cs.toArray ty)) pa pb da db a b oa ob K XA XB ((W.heap.size, cs, ty) :: Bs) := by
  have h1 := h.then (grown_alloc W (.cells cs.toArray ty))
  refine ⟨h1.sa, h1.sb, h1.ap, h1.gr, fun x hx => ?_⟩
  rcases List.mem_cons.1 hx with rfl | hx
  · exact ⟨heap_alloc_new W _, fun e => Nat.lt_irrefl _ (h.sa.lt _ e), fun e => Nat.lt_irrefl _ (h.sb.lt _ e), h.gr.size⟩
  · exact h1.bx x hx
/-- A call on the first side. -/
theorem Gs.moved (h : Gs w W pa pb da db a b oa ob K XA XB Bs) (m : Sdp w W W' pa da a b oa' K' XA) (hk : K ≤ K') : ∃ XA', Gs w W' pa pb da db a b oa' ob K' XA' XB Bs := by
  obtain ⟨X', h1, h2, h3⟩ := m
  refine ⟨X', h1, (h.sb.far h2 (fun i hi e => h.ap i e hi)).more hk, fun i e1 e2 => ?_, ((Kept.new h.gr (fun i => w.heap.size ≤ i)).trans h2 (fun i _ e => h.sa.ge i e)).grown (fun i hi e => by omega), fun x hx => ?_⟩
  · rcases h3 i e1 with e | e
    · exact h.ap i e e2
    · have := h.sb.lt i e2; omega
  · obtain ⟨k1, k2, k3, k4⟩ := h.bx x hx
    refine ⟨h2.at k1 k2, fun e => ?_, k3, k4⟩
    rcases h3 _ e with e | e
    · exact k2 e
    · have := row_lt k1; omega
theorem Gs.cell (h : Gs w W pa pb da db a b oa ob K XA XB Bs) {x : Nat × List Value × TypeId} (hx : x ∈ Bs) (j : Nat) (u : Value) (hu : x.2.1[j]? = some u) : W.cell? ⟨x.1, j, none⟩ = some u := by rw [cell_row (h.bx x hx).1]; exact hu
theorem Gs.free (h : Gs w W pa pb da db a b oa ob K XA XB Bs) {x : Nat × List Value × TypeId} (hx : x ∈ Bs) (j : Nat) : W.frozen? ⟨x.1, j, none⟩ = false := free_row (h.bx x hx).1 j
/-- The first box is written. -/
theorem Gs.put {X : Nat} {cs : List Value} {ty : TypeId} (h : Gs w W pa pb da db a b oa ob K XA XB ((X, cs, ty) :: Bs)) (j : Nat) (u : Value) (hne : ∀ y ∈ Bs, y.1 ≠ X) : Gs w (W.setCell ⟨X, j, none⟩ u) pa pb da db a b oa ob K XA XB ((X, cs.set j u, ty) :: Bs) := by
  obtain ⟨h1, h2, h3, h4⟩ := h.bx _ (List.mem_cons_self ..)
  have k := kept_setCell W X j u
  refine ⟨h.sa.far k (fun i hi e => h2 (by rw [← e]; exact hi)), h.sb.far k (fun i hi e => h3 (by rw [← e]; exact hi)), h.ap, gn_set h.gr h4, fun y hy => ?_⟩
  rcases List.mem_cons.1 hy with rfl | hy
  · exact ⟨row_setCell h1 j u, h2, h3, h4⟩
  · obtain ⟨k1, k2⟩ := h.bx y (List.mem_cons_of_mem _ hy)
    exact ⟨k.at k1 (hne y hy), k2⟩
/-- The other side is replaced by new ones. -/
theorem Gs.renew {pb' : Option Addr} {db' : Nat} {ob' : Option Sb} {XB' : Nat → Prop} (h : Gs w W pa pb da db a b oa ob K XA XB Bs) (g : W.grownBy W' none) (s : Sd w W' pb' db' a b ob' K XB') (hn : ∀ i, XB' i → W.heap.size ≤ i) : Gs w W' pa pb' da db' a b oa ob' K XA XB' Bs :=
  ⟨h.sa.then g, s, fun i e1 e2 => by have := h.sa.lt i e1; have := hn i e2; omega, grown_trans h.gr g, fun x hx => by
    obtain ⟨k1, k2, k3, k4⟩ := (h.then g).bx x hx
    exact ⟨k1, k2, fun e => by have := hn _ e; have := row_lt (h.bx x hx).1; omega, k4⟩⟩
end
/-- Two entries of a row, the k-th ahead. -/
def two (k : Nat) (x y : Value) : List Value := if k = 0 then [x, y] else [y, x]
theorem two_k {k : Nat} (hk : k < 2) (x y : Value) : (two k x y)[k]? = some x ∧ (two k x y)[1 - k]? = some y := by
  unfold two
  rcases (show k = 0 ∨ k = 1 by omega) with rfl | rfl
  · exact ⟨rfl, rfl⟩
  · exact ⟨rfl, rfl⟩
theorem two_set {k : Nat} (hk : k < 2) (x y z : Value) : (two k x y).set (1 - k) z = two k x z := by
  unfold two
  rcases (show k = 0 ∨ k = 1 by omega) with rfl | rfl
  · rfl
  · rfl
end Go.Proofs.YtcbiloomnkbalaaGreatDoor
