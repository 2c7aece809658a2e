/- Texts joined: LaI. -/
import Derived.Test.YtahjckcfcdnlmaaGreatJnAp
import Derived.Test.YtahjckcfcdnlmaaGreatRows
import Derived.ProofKit
import Derived.OpenShut
import Derived.Deep.DeepHandedRow
import Derived.ChangeOld
import Derived.ChangeMaps5
import Derived.SizedLaws
/- Arguments opened: bytes, a shape, what is told of a book. -/
namespace Go.Proofs.YtahjckcfcdnlmaaGreat
open Go.ChangeShapes Go.WideShapes Go.ChangeAt Go.RowKit Go.Deep
theorem seat_own : ownKnob Tryz.prog.godebug = none := by kernel_rfl
theorem seat_laid : laidOutB Tryz.prog = true := by kernel_rfl
variable {H : Type} {enc : TypeId × Value → H}
theorem ck45 : Tryz.prog.cellsOf 78 = 3 := by kernel_rfl
theorem ck48 : Tryz.prog.cellsOf 27 = 6 := by kernel_rfl
theorem ck23 : Tryz.prog.cellsOf 23 = 3 := by kernel_rfl
theorem ck31 : Tryz.prog.cellsOf 25 = 1 := by kernel_rfl
theorem ck30 : Tryz.prog.cellsOf 24 = 1 := by kernel_rfl
theorem ck5 : Tryz.prog.cellsOf 5 = 1 := by kernel_rfl
theorem ck3 : Tryz.prog.cellsOf 3 = 1 := by kernel_rfl
theorem ck2 : Tryz.prog.cellsOf 2 = 1 := by kernel_rfl
theorem cb45 : Tryz.prog.bytesOf 78 = 20 + 4 := by kernel_rfl
theorem cb5 : Tryz.prog.bytesOf 5 = 1 := by kernel_rfl
theorem lst3 {α : Type} {l : List α} (h : l.length = 3) : ∃ a b c, l = [a, b, c] := by
  match l, h with
  | [a, b, c], _ => exact ⟨a, b, c, rfl⟩
theorem lst4 {α : Type} {l : List α} (h : l.length = 4) : ∃ a b c d, l = [a, b, c, d] := by
  match l, h with
  | [a, b, c, d], _ => exact ⟨a, b, c, d, rfl⟩
theorem lst6 {α : Type} {l : List α} (h : l.length = 6) : ∃ a b c d e f, l = [a, b, c, d, e, f] := by
  match l, h with
  | [a, b, c, d, e, f], _ => exact ⟨a, b, c, d, e, f, rfl⟩
set_option maxRecDepth 20000 in
/-- An argument that is a slice of bytes. -/
theorem open_bytesI {w : World} {base : Nat} {spare : Nat → Bool} {held : Bool} {r : Reach} {b0 : Nat} {v : Value} {d : DataW H} {ps : List MemPlace} (hval : Value.okWide Tryz.prog w r b0 36 v) (hd : DataW.Trod enc Tryz.prog w base spare held 36 v d ps) (hz : ∀ n ∈ d.weights Tryz.prog 36, n ≤ reachBytes) :
    ∃ (ao : Option Addr) (n cap : Nat) (xs : List Int), v = .slice ao n cap ∧ xs.length = n ∧ Oc.At w ao xs ∧ Oc.Byt xs ∧ n ≤ 140737488351232 ∧ (ao = none → n = 0 ∧ cap = 0) ∧ n ≤ cap ∧ cap ≤ maxLen ∧ n ≤ Rows.uptoBulk d := by
  obtain ⟨ao, len0, cap0, rfl⟩ := okWide_slice Tryz.underlying36 hval
  obtain ⟨fuel, hf⟩ := hd
  refine ⟨ao, len0, cap0, ?_⟩
  rcases open_ints Tryz.underlying36 Tryz.underlying5 ck5 hf with ⟨hcs, _⟩ | ⟨a, len, cap, zs, hcs, _, hl, hm, hzz, hx, hcell, hwf⟩
  · simp [Value.cells] at hcs
    obtain ⟨rfl, rfl, rfl⟩ := hcs
    exact ⟨[], rfl, rfl, Oc.At.nil _ _, (fun x hx => by cases hx), by omega, fun _ => ⟨rfl, rfl⟩, by omega, by unfold maxLen; omega, by omega⟩
  · simp [Value.cells] at hcs
    obtain ⟨rfl, rfl, rfl⟩ := hcs
    have hd : d = .slice (lits .u8 (zs.take len0)) (lits .u8 (zs.drop len0)) := congrArg Prod.fst hx
    have h1 := hz ((lits .u8 (zs.take len0) : List (DataW H)).length * 1 + (lits .u8 (zs.drop len0) : List (DataW H)).length * 1) (by
      rw [hd]; simp [DataW.weights, Tryz.underlying36, cb5])
    simp only [lits, List.length_map, List.length_take, List.length_drop, reachBytes] at h1
    have hzl : len0 ≤ zs.length := by rw [hzz]; split <;> omega
    refine ⟨zs.take len0, rfl, by simp; omega, ?_, ?_, by omega, (fun e => by cases e), hl, hm, ?_⟩
    · intro j u hu
      rw [List.getElem?_take] at hu
      split at hu
      · rename_i hj
        have hj2 : j < zs.length := by omega
        rw [List.getElem?_eq_getElem hj2] at hu
        have hc := hcell j hj2
        refine ⟨a, rfl, ?_⟩
        rw [hc]
        simp [List.getD_eq_getElem?_getD, hj2] at hu ⊢
        omega
      · cases hu
    · intro x hx
      have := bounds_u8 (hwf x (List.mem_of_mem_take hx))
      omega
    · have hb : ∀ l : List Int, Rows.uptoBulkAll (lits .u8 l : List (DataW H)) = l.length := by
        intro l
        induction l with
        | nil => rfl
        | cons y l ih =>
          show Rows.uptoBulk (.lit (.int .u8 y)) + Rows.uptoBulkAll (lits .u8 l) = _
          rw [ih]
          simp [Rows.uptoBulk]
          omega
      rw [hd]
      simp only [Rows.uptoBulk, hb, List.length_take, List.length_drop]
      omega
set_option maxRecDepth 20000 in
/-- A shape, by its three cells. -/
theorem open_shapeC {w : World} {base fuel : Nat} {spare : Nat → Bool} {held : Bool} {cs : List Value} {x : DataW H × List MemPlace} (h : DataW.trod enc Tryz.prog w base spare held fuel 23 cs = some x) :
    ∃ a b c : Int, cs = [.int .i64 a, .int .i64 b, .int .i64 c] := by
  obtain ⟨xs, n, _, hx, hl, hsz, hf⟩ := DataW.trod_struct Tryz.underlying23 h
  rw [ck23] at hl
  obtain ⟨v0, v1, v2, rfl⟩ := lst3 hl
  obtain ⟨y0, y1, y2, rfl⟩ := lst3 (show xs.length = 3 from hsz)
  have f0 : DataW.trod enc Tryz.prog w base spare held n 3 [v0] = some y0 := by simpa [ck3] using hf 0 _ rfl
  have f1 : DataW.trod enc Tryz.prog w base spare held n 3 [v1] = some y1 := by simpa [ck3] using hf 1 _ rfl
  have f2 : DataW.trod enc Tryz.prog w base spare held n 3 [v2] = some y2 := by simpa [ck3] using hf 2 _ rfl
  obtain ⟨a, e0, rfl, _⟩ := DataW.trod_int Tryz.underlying3 f0
  obtain ⟨b, e1, rfl, _⟩ := DataW.trod_int Tryz.underlying3 f1
  obtain ⟨c, e2, rfl, _⟩ := DataW.trod_int Tryz.underlying3 f2
  simp only [List.cons.injEq, and_true] at e0 e1 e2
  exact ⟨a, b, c, by rw [e0, e1, e2]⟩
set_option maxRecDepth 20000 in
/-- An argument that is a shape. -/
theorem open_shapeI {w : World} {base : Nat} {spare : Nat → Bool} {held : Bool} {r : Reach} {b0 : Nat} {v : Value} {d : DataW H} {ps : List MemPlace} (hval : Value.okWide Tryz.prog w r b0 23 v) (hd : DataW.Trod enc Tryz.prog w base spare held 23 v d ps) :
    ∃ a b c : Int, v = .agg #[.int .i64 a, .int .i64 b, .int .i64 c] := by
  obtain ⟨cs, rfl, _⟩ := okWide_struct Tryz.underlying23 hval
  obtain ⟨fuel, h⟩ := hd
  obtain ⟨a, b, c, e⟩ := open_shapeC (cs := cs.toList) h
  refine ⟨a, b, c, ?_⟩
  congr 1
  cases cs
  simpa using e
set_option maxRecDepth 20000 in
theorem open_bk {w : World} {base n : Nat} {spare : Nat → Bool} {held : Bool} {a : Addr} {cs : List Value} {x : DataW H × List MemPlace} (hc : w.cells? base a 3 = some cs) (h : DataW.trod enc Tryz.prog w base spare held n 78 cs = some x) :
    ∃ r : Bw, a = ⟨a.block, a.off, none⟩ ∧ w.cell? ⟨a.block, a.off, none⟩ = some (.int .u32 (r.i : Int)) ∧ w.cell? ⟨a.block, a.off + 1, none⟩ = some (.int .i64 r.s) ∧ w.cell? ⟨a.block, a.off + 2, none⟩ = some (.int .i64 r.u) := by
  obtain ⟨_, hlen, hcell⟩ := World.cells?_some hc
  obtain ⟨xs, n, _, rfl, hl, hsz, hf⟩ := DataW.trod_struct Tryz.underlying78 h
  obtain ⟨v0, v1, v2, rfl⟩ := lst3 hlen
  obtain ⟨y0, y1, y2, rfl⟩ := lst3 (show xs.length = 3 from hsz)
  clear hl hsz
  have f0 : DataW.trod enc Tryz.prog w base spare held n 24 [v0] = some y0 := by simpa [ck30] using hf 0 _ rfl
  have f1 : DataW.trod enc Tryz.prog w base spare held n 3 [v1] = some y1 := by simpa [ck3] using hf 1 _ rfl
  have f2 : DataW.trod enc Tryz.prog w base spare held n 2 [v2] = some y2 := by simpa [ck2] using hf 2 _ rfl
  obtain ⟨b0, e0, rfl, wa⟩ := DataW.trod_int Tryz.underlying24 f0
  obtain ⟨b1, e1, rfl, wb⟩ := DataW.trod_int Tryz.underlying3 f1
  obtain ⟨b2, e2, rfl, wc⟩ := DataW.trod_int Tryz.underlying2 f2
  simp only [List.cons.injEq, and_true] at e0 e1 e2
  subst e0 e1 e2
  have ba := bounds_u32 wa
  have g0 := hcell 0 (by omega)
  have ha : a = ⟨a.block, a.off, none⟩ := by
    have h1 : w.cell? a = some (.int .u32 b0) := by simpa [Addr.add] using g0
    have h2 : a.spot = none := by
      unfold World.cell? at h1
      split at h1
      · split at h1
        · cases h1
        · rename_i hs; simpa using hs
      · cases h1
    cases a; simp_all
  rw [ha] at hcell
  refine ⟨⟨b0.toNat, b1, b2⟩, ha, ?_, ?_, ?_⟩
  · have := hcell 0 (by omega)
    simp only
    rw [Int.toNat_of_nonneg (by omega)]
    simpa [Addr.add_lit] using this
  · simpa [Addr.add_lit] using hcell 1 (by omega)
  · simpa [Addr.add_lit] using hcell 2 (by omega)
theorem bwcs_snoc (X : List Bw) (x : Bw) : bwcs (X ++ [x]) = bwcs X ++ bwc x := by simp [bwcs]
theorem open_bksB {w : World} {base len n : Nat} {spare : Nat → Bool} {held : Bool} {a : Addr} {D : Nat → DataW H} {Pl : Nat → List MemPlace}
    (h : ∀ i, i < len → ∃ cs', w.cells? base (a.add (i * 3)) 3 = some cs' ∧ DataW.trod enc Tryz.prog w base spare held n 78 cs' = some (D i, Pl i)) :
    ∃ X : List Bw, X.length = len ∧ BwC w (some a) X := by
  have hex : ∀ i, i < len → ∃ r : Bw, ∀ j u, (bwc r)[j]? = some u → w.cell? (a.add (i * 3 + j)) = some u := by
    intro i hi
    obtain ⟨cs', hc, ht⟩ := h i hi
    obtain ⟨o, _, h1, h2, h3⟩ := open_bk hc ht
    have ha : a = ⟨a.block, a.off, none⟩ := by
      obtain ⟨cs0, hc0, ht0⟩ := h 0 (by omega)
      obtain ⟨_, he, _⟩ := open_bk hc0 ht0
      simpa [Addr.add] using he
    have e1 : (a.add (i * 3)).block = a.block := by unfold Addr.add; split <;> rfl
    have e2 : (a.add (i * 3)).off = a.off + i * 3 := by rw [ha, Addr.add_lit]
    rw [e1, e2] at h1 h2 h3
    refine ⟨o, fun j u hj => ?_⟩
    rw [ha, Addr.add_lit]
    have hj3 : j < 3 := (List.getElem?_eq_some_iff.1 hj).1
    have : j = 0 ∨ j = 1 ∨ j = 2 := by omega
    rcases this with rfl | rfl | rfl
    · simp [bwc] at hj; rw [← hj]; exact h1
    · simp [bwc] at hj; rw [← hj, ← Nat.add_assoc]; exact h2
    · simp [bwc] at hj; rw [← hj, ← Nat.add_assoc]; exact h3
  clear h
  induction len with
  | zero => exact ⟨[], rfl, fun j o h => by simp [bwcs] at h⟩
  | succ k ih =>
    obtain ⟨X, h1, h2⟩ := ih (fun i hi => hex i (by omega))
    obtain ⟨o, g1⟩ := hex k (by omega)
    refine ⟨X ++ [o], by simp [h1], ?_⟩
    intro j u hj
    rw [bwcs_snoc] at hj
    have hbl := bwcs_length X
    by_cases hjk : j < (bwcs X).length
    · rw [List.getElem?_append_left hjk] at hj; exact h2 j u hj
    · rw [List.getElem?_append_right (by omega)] at hj
      have := g1 _ u hj
      refine ⟨a, rfl, ?_⟩
      rw [show k * 3 + (j - (bwcs X).length) = j by rw [hbl, h1]; omega] at this
      exact this
set_option maxRecDepth 20000 in
theorem open_bks {w : World} {base fuel : Nat} {spare : Nat → Bool} {held : Bool} {cs : List Value} {x : DataW H × List MemPlace} (h : DataW.trod enc Tryz.prog w base spare held fuel 25 cs = some x) (hz : ∀ n ∈ x.1.weights Tryz.prog 25, n ≤ reachBytes) :
    ∃ (ao : Option Addr) (len cap : Nat) (X : List Bw), cs = [.slice ao len cap] ∧ X.length = len ∧ BwC w ao X ∧ (ao = none → len = 0 ∧ cap = 0) ∧ len ≤ 5864062014800 := by
  rcases open_slice Tryz.underlying25 h with ⟨hcs, _⟩ | ⟨a, len, cap, m, n, D, Pl, hcs, _, hl, hm, hmm, hx, hel⟩
  · exact ⟨none, 0, 0, [], hcs, rfl, (fun j o h => by simp [bwcs] at h), fun _ => ⟨rfl, rfl⟩, by omega⟩
  · have hlm : len ≤ m := by rw [hmm]; split <;> omega
    rw [ck45] at hel
    obtain ⟨X, h1, h2⟩ := open_bksB (len := len) (fun i hi => hel i (by omega))
    have h3 := hz ((((List.range len).map D).length + ((List.range (m - len)).map fun j => D (len + j)).length) * (20 + 4)) (by
      rw [hx]
      simp only [DataW.weights, Tryz.underlying25, cb45]
      exact List.mem_cons_self)
    simp only [List.length_map, List.length_range, reachBytes] at h3
    exact ⟨some a, len, cap, X, hcs, h1, h2, (fun e => by cases e), by omega⟩
set_option maxRecDepth 20000 in
/-- An argument that tells of a book. -/
theorem open_askI {w : World} {base : Nat} {spare : Nat → Bool} {held : Bool} {r : Reach} {b0 : Nat} {v : Value} {d : DataW H} {ps : List MemPlace} (hval : Value.okWide Tryz.prog w r b0 27 v) (hd : DataW.Trod enc Tryz.prog w base spare held 27 v d ps) (hz : ∀ n ∈ d.weights Tryz.prog 27, n ≤ reachBytes) :
    ∃ (a b c : Int) (n : Nat) (t : Int) (ao : Option Addr) (len cap : Nat) (X : List Bw), v = askV a b c n t ao len cap ∧ X.length = len ∧ BwC w ao X ∧ (ao = none → len = 0 ∧ cap = 0) ∧ len ≤ 5864062014800 ∧ n < 4294967296 := by
  obtain ⟨cs, rfl, _⟩ := okWide_struct Tryz.underlying27 hval
  obtain ⟨fuel, h⟩ := hd
  have h : DataW.trod enc Tryz.prog w base spare held fuel 27 cs.toList = some (d, ps) := h
  obtain ⟨xs, n, _, hx, hl, hsz, hf⟩ := DataW.trod_struct Tryz.underlying27 h
  rw [ck48] at hl
  obtain ⟨v0, v1, v2, v3, v4, v5, hc⟩ := lst6 hl
  obtain ⟨y0, y1, y2, y3, rfl⟩ := lst4 (show xs.length = 4 from hsz)
  rw [hc] at hf
  have f0 : DataW.trod enc Tryz.prog w base spare held n 23 [v0, v1, v2] = some y0 := by simpa [ck23] using hf 0 _ rfl
  have f1 : DataW.trod enc Tryz.prog w base spare held n 24 [v3] = some y1 := by simpa [ck23, ck30] using hf 1 _ rfl
  have f2 : DataW.trod enc Tryz.prog w base spare held n 2 [v4] = some y2 := by simpa [ck23, ck30, ck2] using hf 2 _ rfl
  have f3 : DataW.trod enc Tryz.prog w base spare held n 25 [v5] = some y3 := by simpa [ck23, ck30, ck2, ck31] using hf 3 _ rfl
  obtain ⟨a, b, c, e0⟩ := open_shapeC f0
  obtain ⟨n1, e1, rfl, wn⟩ := DataW.trod_int Tryz.underlying24 f1
  obtain ⟨t, e2, rfl, wt⟩ := DataW.trod_int Tryz.underlying2 f2
  have hd : d = .agg [y0.1, .lit (.int .u32 n1), .lit (.int .i64 t), y3.1] := by
    have := congrArg Prod.fst hx
    simpa using this
  obtain ⟨ao, len, cap, X, e3, h1, h2, h3, h4⟩ := open_bks f3 (fun k hk => hz k (by
    rw [hd]
    simp only [DataW.weights, Tryz.underlying27]
    simp [DataW.weightsEach, DataW.weights, hk]))
  have bn := bounds_u32 wn
  simp only [List.cons.injEq, and_true] at e0 e1 e2 e3
  refine ⟨a, b, c, n1.toNat, t, ao, len, cap, X, ?_, h1, h2, h3, h4, by omega⟩
  unfold askV
  rw [Int.toNat_of_nonneg (by omega)]
  rw [e0.1, e0.2.1, e0.2.2, e1, e2, e3] at hc
  congr 1
  cases cs
  simpa using hc
end Go.Proofs.YtahjckcfcdnlmaaGreat
