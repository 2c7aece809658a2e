/- Texts joined: LaO, Vj. -/
import Derived.Test.YtcbiloomnkbalaaGreatDoorJyAm
import Derived.Test.YtcbiloomnkbalaaGreatDoorJyAt
import Derived.Test.YtcbiloomnkbalaaGreatDoorJyAx
/- An argument that is a call of a book, opened. -/
namespace Go.Proofs.YtcbiloomnkbalaaGreatDoor
open Go.ChangeShapes Go.WideShapes Go.ChangeAt Go.RowKit Go.Deep
theorem cellsOf48 : Tryz.prog.cellsOf 48 = 9 := by kernel_rfl
theorem listOf9 {α : Type} {l : List α} (h : l.length = 9) : ∃ a b c d e f g i j, l = [a, b, c, d, e, f, g, i, j] := by
  match l, h with
  | [a, b, c, d, e, f, g, i, j], _ => exact ⟨a, b, c, d, e, f, g, i, j, rfl⟩
variable {H : Type} {enc : TypeId × Value → H}
end Go.Proofs.YtcbiloomnkbalaaGreatDoor
/- Arguments opened: how a book begins, a script of steps. -/
namespace Go.Proofs.YtcbiloomnkbalaaGreatDoor
open Go.ChangeShapes Go.WideShapes Go.ChangeAt Go.RowKit Go.Deep
variable {H : Type} {enc : TypeId × Value → H}
theorem ck78 : Tryz.prog.cellsOf 78 = 3 := by kernel_rfl
theorem ck27 : Tryz.prog.cellsOf 27 = 6 := by kernel_rfl
theorem ck23 : Tryz.prog.cellsOf 23 = 3 := by kernel_rfl
theorem ck25 : Tryz.prog.cellsOf 25 = 1 := by kernel_rfl
theorem lst3 {α : Type} {l : List α} (h : l.length = 3) : ∃ a b c, l = [a, b, c] := by
  match l, h with
  | [a, b, c], _ => exact ⟨a, b, c, rfl⟩
theorem lst4 {α : Type} {l : List α} (h : l.length = 4) : ∃ a b c d, l = [a, b, c, d] := by
  match l, h with
  | [a, b, c, d], _ => exact ⟨a, b, c, d, rfl⟩
theorem lst6 {α : Type} {l : List α} (h : l.length = 6) : ∃ a b c d e f, l = [a, b, c, d, e, f] := by
  match l, h with
  | [a, b, c, d, e, f], _ => exact ⟨a, b, c, d, e, f, rfl⟩
theorem lit_addr {w : World} {a : Addr} {v : Value} (h1 : w.cell? a = some v) : a = ⟨a.block, a.off, none⟩ := by
  have h2 : a.spot = none := by
    unfold World.cell? at h1
    split at h1
    · split at h1
      · cases h1
      · rename_i hs; simpa using hs
    · cases h1
  cases a; simp_all
set_option maxRecDepth 20000 in
theorem open_shapeC {w : World} {base fuel : Nat} {spare : Nat → Bool} {held : Bool} {cs : List Value} {x : DataW H × List MemPlace} (h : DataW.trod enc Tryz.prog w base spare held fuel 23 cs = some x) :
    ∃ a b c : Int, cs = [.int .i64 a, .int .i64 b, .int .i64 c] := by
  obtain ⟨xs, n, _, hx, hl, hsz, hf⟩ := DataW.trod_struct Tryz.underlying23 h
  rw [ck23] at hl
  obtain ⟨v0, v1, v2, rfl⟩ := lst3 hl
  obtain ⟨y0, y1, y2, rfl⟩ := lst3 (show xs.length = 3 from hsz)
  have f0 : DataW.trod enc Tryz.prog w base spare held n 3 [v0] = some y0 := by simpa [cellsOf3] using hf 0 _ rfl
  have f1 : DataW.trod enc Tryz.prog w base spare held n 3 [v1] = some y1 := by simpa [cellsOf3] using hf 1 _ rfl
  have f2 : DataW.trod enc Tryz.prog w base spare held n 3 [v2] = some y2 := by simpa [cellsOf3] using hf 2 _ rfl
  obtain ⟨a, e0, rfl, _⟩ := DataW.trod_int Tryz.underlying3 f0
  obtain ⟨b, e1, rfl, _⟩ := DataW.trod_int Tryz.underlying3 f1
  obtain ⟨c, e2, rfl, _⟩ := DataW.trod_int Tryz.underlying3 f2
  simp only [List.cons.injEq, and_true] at e0 e1 e2
  exact ⟨a, b, c, by rw [e0, e1, e2]⟩
set_option maxRecDepth 20000 in
theorem open_bk {w : World} {base n : Nat} {spare : Nat → Bool} {held : Bool} {a : Addr} {cs : List Value} {x : DataW H × List MemPlace} (hc : w.cells? base a 3 = some cs) (h : DataW.trod enc Tryz.prog w base spare held n 78 cs = some x) :
    ∃ r : Bw, a = ⟨a.block, a.off, none⟩ ∧ w.cell? ⟨a.block, a.off, none⟩ = some (.int .u32 (r.i : Int)) ∧ w.cell? ⟨a.block, a.off + 1, none⟩ = some (.int .i64 r.s) ∧ w.cell? ⟨a.block, a.off + 2, none⟩ = some (.int .i64 r.u) := by
  obtain ⟨_, hlen, hcell⟩ := World.cells?_some hc
  obtain ⟨xs, n, _, rfl, hl, hsz, hf⟩ := DataW.trod_struct Tryz.underlying78 h
  obtain ⟨v0, v1, v2, rfl⟩ := lst3 hlen
  obtain ⟨y0, y1, y2, rfl⟩ := lst3 (show xs.length = 3 from hsz)
  clear hl hsz
  have f0 : DataW.trod enc Tryz.prog w base spare held n 24 [v0] = some y0 := by simpa [cellsOf24] using hf 0 _ rfl
  have f1 : DataW.trod enc Tryz.prog w base spare held n 3 [v1] = some y1 := by simpa [cellsOf3] using hf 1 _ rfl
  have f2 : DataW.trod enc Tryz.prog w base spare held n 2 [v2] = some y2 := by simpa [cellsOf2] using hf 2 _ rfl
  obtain ⟨b0, e0, rfl, wa⟩ := DataW.trod_int Tryz.underlying24 f0
  obtain ⟨b1, e1, rfl, wb⟩ := DataW.trod_int Tryz.underlying3 f1
  obtain ⟨b2, e2, rfl, wc⟩ := DataW.trod_int Tryz.underlying2 f2
  simp only [List.cons.injEq, and_true] at e0 e1 e2
  subst e0 e1 e2
  have ba := bounds_u32 wa
  have ha : a = ⟨a.block, a.off, none⟩ := lit_addr (v := .int .u32 b0) (by simpa [Addr.add] using hcell 0 (by omega))
  rw [ha] at hcell
  refine ⟨⟨b0.toNat, b1, b2⟩, ha, ?_, ?_, ?_⟩
  · have := hcell 0 (by omega)
    simp only
    rw [Int.toNat_of_nonneg (by omega)]
    simpa [Addr.add_lit] using this
  · simpa [Addr.add_lit] using hcell 1 (by omega)
  · simpa [Addr.add_lit] using hcell 2 (by omega)
theorem open_bwsB {w : World} {base len n : Nat} {spare : Nat → Bool} {held : Bool} {a : Addr} {D : Nat → DataW H} {Pl : Nat → List MemPlace}
    (h : ∀ i, i < len → ∃ cs', w.cells? base (a.add (i * 3)) 3 = some cs' ∧ DataW.trod enc Tryz.prog w base spare held n 78 cs' = some (D i, Pl i)) :
    ∃ X : List Bw, X.length = len ∧ BwsAt w (some a) X := by
  have hex : ∀ i, i < len → ∃ r : Bw, ∃ blk off, some a = some (⟨blk, off, none⟩ : Addr) ∧ w.cell? ⟨blk, off + i * 3, none⟩ = some (.int .u32 (r.i : Int)) ∧ w.cell? ⟨blk, off + i * 3 + 1, none⟩ = some (.int .i64 r.s) ∧ w.cell? ⟨blk, off + i * 3 + 2, none⟩ = some (.int .i64 r.u) := by
    intro i hi
    obtain ⟨cs', hc, ht⟩ := h i hi
    obtain ⟨o, _, h1, h2, h3⟩ := open_bk hc ht
    have ha : a = ⟨a.block, a.off, none⟩ := by
      obtain ⟨cs0, hc0, ht0⟩ := h 0 (by omega)
      obtain ⟨_, he, _⟩ := open_bk hc0 ht0
      simpa [Addr.add] using he
    have e1 : (a.add (i * 3)).block = a.block := by unfold Addr.add; split <;> rfl
    have e2 : (a.add (i * 3)).off = a.off + i * 3 := by rw [ha, Addr.add_lit]
    rw [e1, e2] at h1 h2 h3
    exact ⟨o, a.block, a.off, by rw [← ha], h1, h2, h3⟩
  clear h
  induction len with
  | zero => exact ⟨[], rfl, fun j o h => by simp at h⟩
  | succ k ih =>
    obtain ⟨os, h1, h2⟩ := ih (fun i hi => hex i (by omega))
    obtain ⟨o, g1⟩ := hex k (by omega)
    refine ⟨os ++ [o], by simp [h1], ?_⟩
    intro j o' hj
    by_cases hjk : j < os.length
    · rw [List.getElem?_append_left hjk] at hj; exact h2 j o' hj
    · have hlt := (List.getElem?_eq_some_iff.1 hj).1
      have hjk2 : j = k := by simp at hlt; omega
      subst hjk2
      rw [List.getElem?_append_right (by omega), h1, Nat.sub_self] at hj
      simp at hj
      subst hj
      exact g1
set_option maxRecDepth 20000 in
theorem open_bws {w : World} {base fuel : Nat} {spare : Nat → Bool} {held : Bool} {cs : List Value} {x : DataW H × List MemPlace} (h : DataW.trod enc Tryz.prog w base spare held fuel 25 cs = some x) :
    ∃ (ao : Option Addr) (len cap : Nat) (X : List Bw), cs = [.slice ao len cap] ∧ X.length = len ∧ BwsAt w ao X ∧ (ao = none → len = 0 ∧ cap = 0) := by
  rcases open_slice Tryz.underlying25 h with ⟨hcs, _⟩ | ⟨a, len, cap, m, n, D, Pl, hcs, _, hl, hm, hmm, hx, hel⟩
  · exact ⟨none, 0, 0, [], hcs, rfl, (fun j o h => by simp at h), fun _ => ⟨rfl, rfl⟩⟩
  · have hlm : len ≤ m := by rw [hmm]; split <;> omega
    rw [ck78] at hel
    obtain ⟨X, h1, h2⟩ := open_bwsB (len := len) (fun i hi => hel i (by omega))
    exact ⟨some a, len, cap, X, hcs, h1, h2, fun e => by cases e⟩
set_option maxRecDepth 20000 in
/-- An argument that tells how a book begins. -/
theorem open_startArg {w : World} {base : Nat} {spare : Nat → Bool} {held : Bool} {r : Reach} {b0 : Nat} {v : Value} {d : DataW H} {ps : List MemPlace} (hval : Value.okWide Tryz.prog w r b0 27 v) (hd : DataW.Trod enc Tryz.prog w base spare held 27 v d ps) :
    ∃ (a b c : Int) (n : Nat) (t : Int) (ao : Option Addr) (len cap : Nat) (X : List Bw), v = .agg #[.int .i64 a, .int .i64 b, .int .i64 c, .int .u32 (n : Int), .int .i64 t, .slice ao len cap] ∧ X.length = len ∧ BwsAt w ao X ∧ (ao = none → len = 0 ∧ cap = 0) ∧ n < 4294967296 := by
  obtain ⟨cs, rfl, _⟩ := okWide_struct Tryz.underlying27 hval
  obtain ⟨fuel, h⟩ := hd
  have h : DataW.trod enc Tryz.prog w base spare held fuel 27 cs.toList = some (d, ps) := h
  obtain ⟨xs, n, _, hx, hl, hsz, hf⟩ := DataW.trod_struct Tryz.underlying27 h
  rw [ck27] at hl
  obtain ⟨v0, v1, v2, v3, v4, v5, hc⟩ := lst6 hl
  obtain ⟨y0, y1, y2, y3, rfl⟩ := lst4 (show xs.length = 4 from hsz)
  rw [hc] at hf
  have f0 : DataW.trod enc Tryz.prog w base spare held n 23 [v0, v1, v2] = some y0 := by simpa [ck23] using hf 0 _ rfl
  have f1 : DataW.trod enc Tryz.prog w base spare held n 24 [v3] = some y1 := by simpa [ck23, cellsOf24] using hf 1 _ rfl
  have f2 : DataW.trod enc Tryz.prog w base spare held n 2 [v4] = some y2 := by simpa [ck23, cellsOf24, cellsOf2] using hf 2 _ rfl
  have f3 : DataW.trod enc Tryz.prog w base spare held n 25 [v5] = some y3 := by simpa [ck23, cellsOf24, cellsOf2, ck25] using hf 3 _ rfl
  obtain ⟨a, b, c, e0⟩ := open_shapeC f0
  obtain ⟨n1, e1, _, wn⟩ := DataW.trod_int Tryz.underlying24 f1
  obtain ⟨t, e2, _, wt⟩ := DataW.trod_int Tryz.underlying2 f2
  obtain ⟨ao, len, cap, X, e3, h1, h2, h3⟩ := open_bws f3
  have bn := bounds_u32 wn
  simp only [List.cons.injEq, and_true] at e0 e1 e2 e3
  refine ⟨a, b, c, n1.toNat, t, ao, len, cap, X, ?_, h1, h2, h3, by omega⟩
  rw [Int.toNat_of_nonneg (by omega)]
  rw [e0.1, e0.2.1, e0.2.2, e1, e2, e3] at hc
  congr 1
  cases cs
  simpa using hc
set_option maxRecDepth 20000 in
theorem open_opx {w : World} {base n : Nat} {spare : Nat → Bool} {held : Bool} {a : Addr} {cs : List Value} {x : DataW H × List MemPlace} (hcc : w.cells? base a 9 = some cs) (h : DataW.trod enc Tryz.prog w base spare held n 48 cs = some x) :
    ∃ o : Opx, o.Ok ∧ a = ⟨a.block, a.off, none⟩ ∧ w.cell? ⟨a.block, a.off, none⟩ = some (.int .i64 o.d) ∧ w.cell? ⟨a.block, a.off + 1, none⟩ = some (.int .i64 o.n) ∧ w.cell? ⟨a.block, a.off + 2, none⟩ = some (.int .i64 o.r.k) ∧ w.cell? ⟨a.block, a.off + 3, none⟩ = some (.int .u32 o.r.i) ∧ w.cell? ⟨a.block, a.off + 4, none⟩ = some (.int .i64 o.r.s) ∧ w.cell? ⟨a.block, a.off + 5, none⟩ = some (.int .i64 o.r.u) ∧ w.cell? ⟨a.block, a.off + 6, none⟩ = some (.int .i64 o.r.c) ∧ w.cell? ⟨a.block, a.off + 7, none⟩ = some (.int .u32 (o.i : Int)) ∧ w.cell? ⟨a.block, a.off + 8, none⟩ = some (.int .i64 o.s) := by
  obtain ⟨_, hlen, hcell⟩ := World.cells?_some hcc
  obtain ⟨xs, n, _, hx, hl, hsz, hf⟩ := DataW.trod_struct Tryz.underlying48 h
  obtain ⟨v0, v1, v2, v3, v4, v5, v6, v7, v8, rfl⟩ := listOf9 hlen
  obtain ⟨y0, y1, y2, y3, y4, rfl⟩ := listOf5 (show xs.length = 5 from hsz)
  clear hl hsz
  have f0 : DataW.trod enc Tryz.prog w base spare held n 3 [v0] = some y0 := by simpa [cellsOf3, cellsOf46, cellsOf24] using hf 0 _ rfl
  have f1 : DataW.trod enc Tryz.prog w base spare held n 3 [v1] = some y1 := by simpa [cellsOf3, cellsOf46, cellsOf24] using hf 1 _ rfl
  have f2 : DataW.trod enc Tryz.prog w base spare held n 46 [v2, v3, v4, v5, v6] = some y2 := by simpa [cellsOf3, cellsOf46, cellsOf24] using hf 2 _ rfl
  have f3 : DataW.trod enc Tryz.prog w base spare held n 24 [v7] = some y3 := by simpa [cellsOf3, cellsOf46, cellsOf24] using hf 3 _ rfl
  have f4 : DataW.trod enc Tryz.prog w base spare held n 3 [v8] = some y4 := by simpa [cellsOf3, cellsOf46, cellsOf24] using hf 4 _ rfl
  obtain ⟨zs, m, _, _, _, hsz2, hf2⟩ := DataW.trod_struct Tryz.underlying46 f2
  obtain ⟨z0, z1, z2, z3, z4, rfl⟩ := listOf5 (show zs.length = 5 from hsz2)
  have k0 : DataW.trod enc Tryz.prog w base spare held m 44 [v2] = some z0 := by simpa [cellsOf44] using hf2 0 _ rfl
  have k1 : DataW.trod enc Tryz.prog w base spare held m 24 [v3] = some z1 := by simpa [cellsOf24] using hf2 1 _ rfl
  have k2 : DataW.trod enc Tryz.prog w base spare held m 3 [v4] = some z2 := by simpa [cellsOf3] using hf2 2 _ rfl
  have k3 : DataW.trod enc Tryz.prog w base spare held m 2 [v5] = some z3 := by simpa [cellsOf2] using hf2 3 _ rfl
  have k4 : DataW.trod enc Tryz.prog w base spare held m 2 [v6] = some z4 := by simpa [cellsOf2] using hf2 4 _ rfl
  obtain ⟨p0, e0, _, w0⟩ := DataW.trod_int Tryz.underlying3 f0
  obtain ⟨p1, e1, _, w1⟩ := DataW.trod_int Tryz.underlying3 f1
  obtain ⟨p2, e2, _, w2⟩ := DataW.trod_int Tryz.underlying44 k0
  obtain ⟨p3, e3, _, w3⟩ := DataW.trod_int Tryz.underlying24 k1
  obtain ⟨p4, e4, _, w4⟩ := DataW.trod_int Tryz.underlying3 k2
  obtain ⟨p5, e5, _, w5⟩ := DataW.trod_int Tryz.underlying2 k3
  obtain ⟨p6, e6, _, w6⟩ := DataW.trod_int Tryz.underlying2 k4
  obtain ⟨p7, e7, _, w7⟩ := DataW.trod_int Tryz.underlying24 f3
  obtain ⟨p8, e8, _, w8⟩ := DataW.trod_int Tryz.underlying3 f4
  simp only [List.cons.injEq, and_true] at e0 e1 e2 e3 e4 e5 e6 e7 e8
  subst e0 e1 e2 e3 e4 e5 e6 e7 e8
  have b2 := bounds_i64 w2
  have b3 := bounds_u32 w3
  have b4 := bounds_i64 w4
  have b5 := bounds_i64 w5
  have b6 := bounds_i64 w6
  have b7 := bounds_u32 w7
  have ha : a = ⟨a.block, a.off, none⟩ := lit_addr (v := .int .i64 p0) (by simpa [Addr.add] using hcell 0 (by omega))
  rw [ha] at hcell
  refine ⟨⟨p0, p1, ⟨p2, p3, p4, p5, p6⟩, p7.toNat, p8⟩, ⟨⟨by simp only; omega, by simp only; omega, by simp only; omega, by simp only; omega, by simp only; omega, by simp only; omega, by simp only; omega, by simp only; omega, by simp only; omega, by simp only; omega⟩, by simp only; omega⟩, ha, ?_, ?_, ?_, ?_, ?_, ?_, ?_, ?_, ?_⟩
  · simpa [Addr.add_lit] using hcell 0 (by omega)
  · simpa [Addr.add_lit] using hcell 1 (by omega)
  · simpa [Addr.add_lit] using hcell 2 (by omega)
  · simpa [Addr.add_lit] using hcell 3 (by omega)
  · simpa [Addr.add_lit] using hcell 4 (by omega)
  · simpa [Addr.add_lit] using hcell 5 (by omega)
  · simpa [Addr.add_lit] using hcell 6 (by omega)
  · have := hcell 7 (by omega)
    simp only
    rw [Int.toNat_of_nonneg (by omega)]
    simpa [Addr.add_lit] using this
  · simpa [Addr.add_lit] using hcell 8 (by omega)
theorem open_opsB {w : World} {base len n : Nat} {spare : Nat → Bool} {held : Bool} {a : Addr} {D : Nat → DataW H} {Pl : Nat → List MemPlace}
    (h : ∀ i, i < len → ∃ cs', w.cells? base (a.add (i * 9)) 9 = some cs' ∧ DataW.trod enc Tryz.prog w base spare held n 48 cs' = some (D i, Pl i)) :
    ∃ os : List Opx, os.length = len ∧ OpsAt w (some a) os ∧ (∀ o ∈ os, o.Ok) := by
  have hex : ∀ i, i < len → ∃ o : Opx, o.Ok ∧ ∃ blk off, some a = some (⟨blk, off, none⟩ : Addr) ∧ w.cell? ⟨blk, off + i * 9, none⟩ = some (.int .i64 o.d) ∧ w.cell? ⟨blk, off + i * 9 + 1, none⟩ = some (.int .i64 o.n) ∧ w.cell? ⟨blk, off + i * 9 + 2, none⟩ = some (.int .i64 o.r.k) ∧ w.cell? ⟨blk, off + i * 9 + 3, none⟩ = some (.int .u32 o.r.i) ∧ w.cell? ⟨blk, off + i * 9 + 4, none⟩ = some (.int .i64 o.r.s) ∧ w.cell? ⟨blk, off + i * 9 + 5, none⟩ = some (.int .i64 o.r.u) ∧ w.cell? ⟨blk, off + i * 9 + 6, none⟩ = some (.int .i64 o.r.c) ∧ w.cell? ⟨blk, off + i * 9 + 7, none⟩ = some (.int .u32 (o.i : Int)) ∧ w.cell? ⟨blk, off + i * 9 + 8, none⟩ = some (.int .i64 o.s) := by
    intro i hi
    obtain ⟨cs', hc, ht⟩ := h i hi
    obtain ⟨o, hok, _, h0, h1, h2, h3, h4, h5, h6, h7, h8⟩ := open_opx hc ht
    have ha : a = ⟨a.block, a.off, none⟩ := by
      obtain ⟨cs0, hc0, ht0⟩ := h 0 (by omega)
      obtain ⟨_, _, he, _⟩ := open_opx hc0 ht0
      simpa [Addr.add] using he
    have e1 : (a.add (i * 9)).block = a.block := by unfold Addr.add; split <;> rfl
    have e2 : (a.add (i * 9)).off = a.off + i * 9 := by rw [ha, Addr.add_lit]
    rw [e1, e2] at h0 h1 h2 h3 h4 h5 h6 h7 h8
    exact ⟨o, hok, a.block, a.off, by rw [← ha], h0, h1, h2, h3, h4, h5, h6, h7, h8⟩
  clear h
  induction len with
  | zero => exact ⟨[], rfl, (fun j o h => by simp at h), fun o ho => by simp at ho⟩
  | succ k ih =>
    obtain ⟨os, h1, h2, h3⟩ := ih (fun i hi => hex i (by omega))
    obtain ⟨o, hok, g1⟩ := hex k (by omega)
    refine ⟨os ++ [o], by simp [h1], ?_, ?_⟩
    · intro j o' hj
      by_cases hjk : j < os.length
      · rw [List.getElem?_append_left hjk] at hj; exact h2 j o' hj
      · have hlt := (List.getElem?_eq_some_iff.1 hj).1
        have hjk2 : j = k := by simp at hlt; omega
        subst hjk2
        rw [List.getElem?_append_right (by omega), h1, Nat.sub_self] at hj
        simp at hj
        subst hj
        exact g1
    · intro o' ho'
      rcases List.mem_append.1 ho' with h | h
      · exact h3 o' h
      · simp at h; rw [h]; exact hok
set_option maxRecDepth 20000 in
/-- An argument that is a script. -/
theorem open_opsArg {w : World} {r : Reach} {b0 : Nat} {v : Value} {d : DataW H} {p0 : List MemPlace} (hval : Value.okWide Tryz.prog w r b0 28 v) (h0 : DataW.Trod enc Tryz.prog w 0 (fun _ => true) true 28 v d p0) :
    ∃ (ao : Option Addr) (len cap : Nat) (os : List Opx), v = .slice ao len cap ∧ os.length = len ∧ OpsAt w ao os ∧ (∀ o ∈ os, o.Ok) := by
  obtain ⟨ao, len0, cap0, rfl⟩ := okWide_slice Tryz.underlying28 hval
  obtain ⟨fuel, hf⟩ := h0
  rcases open_slice Tryz.underlying28 hf with ⟨hcs, _⟩ | ⟨a, len, cap, m, n, D, Pl, hcs, _, hl, hm, hmm, hx, hel⟩
  · simp [Value.cells] at hcs
    obtain ⟨rfl, rfl, rfl⟩ := hcs
    exact ⟨none, 0, 0, [], rfl, rfl, (fun j o h => by simp at h), fun o ho => by simp at ho⟩
  · simp [Value.cells] at hcs
    obtain ⟨rfl, rfl, rfl⟩ := hcs
    have hlm : len0 ≤ m := by rw [hmm]; split <;> omega
    rw [cellsOf48] at hel
    obtain ⟨os, h1, h2, h3⟩ := open_opsB (len := len0) (fun i hi => hel i (by omega))
    exact ⟨_, len0, cap0, os, rfl, h1, h2, h3⟩
end Go.Proofs.YtcbiloomnkbalaaGreatDoor
