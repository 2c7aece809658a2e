/- Texts joined: LaI, ImP, K0, KFlat0, KFlat1. -/
import Derived.Test.YtahjckcfcdnlmaaGreatJnAp
import Derived.Test.YtahjckcfcdnlmaaGreatRows
import Derived.ProofKit
import Derived.OpenShut
import Derived.Deep.DeepHandedRow
import Derived.ChangeOld
import Derived.ChangeMaps5
import Derived.SizedLaws
import Derived.Test.YtahjckcfcdnlmaaGreatJnAr
import Derived.WalkKit
import Derived.WalkSpells
import Derived.WalkLawsBesides
import Derived.Laws.CopyOwn
import Derived.Laws.Bits64b
import Derived.Laws.Bits64
import Derived.Deep.MidRow
import Derived.Test.YtahjckcfcdnlmaaGreatChecked
import Derived.Deep.LoopGhost
import Derived.Deep.RegionHeld3
import Derived.Deep.DrawnRows
import Derived.Deep.QuietTactic
import Derived.Deep.RegionWith
import Derived.BigQuiet
import Derived.Deep.OwnRows
import Derived.Laws.AppendOwnNone
import Derived.Laws.BitsAllLaws
import Derived.Laws.OwnMore
import Derived.ArgAppend
/- Arguments opened: bytes, a shape, what is told of a book. -/
namespace Go.Proofs.YtahjckcfcdnlmaaGreat
open Go.ChangeShapes Go.WideShapes Go.ChangeAt Go.RowKit Go.Deep
theorem seat_own : ownKnob Tryz.prog.godebug = none := by kernel_rfl
theorem seat_laid : laidOutB Tryz.prog = true := by kernel_rfl
variable {H : Type} {enc : TypeId × Value → H}
theorem ck45 : Tryz.prog.cellsOf 78 = 3 := by kernel_rfl
theorem ck48 : Tryz.prog.cellsOf 27 = 6 := by kernel_rfl
theorem ck23 : Tryz.prog.cellsOf 23 = 3 := by kernel_rfl
theorem ck31 : Tryz.prog.cellsOf 25 = 1 := by kernel_rfl
theorem ck30 : Tryz.prog.cellsOf 24 = 1 := by kernel_rfl
theorem ck5 : Tryz.prog.cellsOf 5 = 1 := by kernel_rfl
theorem ck3 : Tryz.prog.cellsOf 3 = 1 := by kernel_rfl
theorem ck2 : Tryz.prog.cellsOf 2 = 1 := by kernel_rfl
theorem cb45 : Tryz.prog.bytesOf 78 = 20 + 4 := by kernel_rfl
theorem cb5 : Tryz.prog.bytesOf 5 = 1 := by kernel_rfl
theorem lst3 {α : Type} {l : List α} (h : l.length = 3) : ∃ a b c, l = [a, b, c] := by
  match l, h with
  | [a, b, c], _ => exact ⟨a, b, c, rfl⟩
theorem lst4 {α : Type} {l : List α} (h : l.length = 4) : ∃ a b c d, l = [a, b, c, d] := by
  match l, h with
  | [a, b, c, d], _ => exact ⟨a, b, c, d, rfl⟩
theorem lst6 {α : Type} {l : List α} (h : l.length = 6) : ∃ a b c d e f, l = [a, b, c, d, e, f] := by
  match l, h with
  | [a, b, c, d, e, f], _ => exact ⟨a, b, c, d, e, f, rfl⟩
set_option maxRecDepth 20000 in
/-- An argument that is a slice of bytes. -/
theorem open_bytesI {w : World} {base : Nat} {spare : Nat → Bool} {held : Bool} {r : Reach} {b0 : Nat} {v : Value} {d : DataW H} {ps : List MemPlace} (hval : Value.okWide Tryz.prog w r b0 36 v) (hd : DataW.Trod enc Tryz.prog w base spare held 36 v d ps) (hz : ∀ n ∈ d.weights Tryz.prog 36, n ≤ reachBytes) :
    ∃ (ao : Option Addr) (n cap : Nat) (xs : List Int), v = .slice ao n cap ∧ xs.length = n ∧ Oc.At w ao xs ∧ Oc.Byt xs ∧ n ≤ 140737488351232 ∧ (ao = none → n = 0 ∧ cap = 0) ∧ n ≤ cap ∧ cap ≤ maxLen ∧ n ≤ Rows.uptoBulk d := by
  obtain ⟨ao, len0, cap0, rfl⟩ := okWide_slice Tryz.underlying36 hval
  obtain ⟨fuel, hf⟩ := hd
  refine ⟨ao, len0, cap0, ?_⟩
  rcases open_ints Tryz.underlying36 Tryz.underlying5 ck5 hf with ⟨hcs, _⟩ | ⟨a, len, cap, zs, hcs, _, hl, hm, hzz, hx, hcell, hwf⟩
  · simp [Value.cells] at hcs
    obtain ⟨rfl, rfl, rfl⟩ := hcs
    exact ⟨[], rfl, rfl, Oc.At.nil _ _, (fun x hx => by cases hx), by omega, fun _ => ⟨rfl, rfl⟩, by omega, by unfold maxLen; omega, by omega⟩
  · simp [Value.cells] at hcs
    obtain ⟨rfl, rfl, rfl⟩ := hcs
    have hd : d = .slice (lits .u8 (zs.take len0)) (lits .u8 (zs.drop len0)) := congrArg Prod.fst hx
    have h1 := hz ((lits .u8 (zs.take len0) : List (DataW H)).length * 1 + (lits .u8 (zs.drop len0) : List (DataW H)).length * 1) (by
      rw [hd]; simp [DataW.weights, Tryz.underlying36, cb5])
    simp only [lits, List.length_map, List.length_take, List.length_drop, reachBytes] at h1
    have hzl : len0 ≤ zs.length := by rw [hzz]; split <;> omega
    refine ⟨zs.take len0, rfl, by simp; omega, ?_, ?_, by omega, (fun e => by cases e), hl, hm, ?_⟩
    · intro j u hu
      rw [List.getElem?_take] at hu
      split at hu
      · rename_i hj
        have hj2 : j < zs.length := by omega
        rw [List.getElem?_eq_getElem hj2] at hu
        have hc := hcell j hj2
        refine ⟨a, rfl, ?_⟩
        rw [hc]
        simp [List.getD_eq_getElem?_getD, hj2] at hu ⊢
        omega
      · cases hu
    · intro x hx
      have := bounds_u8 (hwf x (List.mem_of_mem_take hx))
      omega
    · have hb : ∀ l : List Int, Rows.uptoBulkAll (lits .u8 l : List (DataW H)) = l.length := by
        intro l
        induction l with
        | nil => rfl
        | cons y l ih =>
          show Rows.uptoBulk (.lit (.int .u8 y)) + Rows.uptoBulkAll (lits .u8 l) = _
          rw [ih]
          simp [Rows.uptoBulk]
          omega
      rw [hd]
      simp only [Rows.uptoBulk, hb, List.length_take, List.length_drop]
      omega
set_option maxRecDepth 20000 in
/-- A shape, by its three cells. -/
theorem open_shapeC {w : World} {base fuel : Nat} {spare : Nat → Bool} {held : Bool} {cs : List Value} {x : DataW H × List MemPlace} (h : DataW.trod enc Tryz.prog w base spare held fuel 23 cs = some x) :
    ∃ a b c : Int, cs = [.int .i64 a, .int .i64 b, .int .i64 c] := by
  obtain ⟨xs, n, _, hx, hl, hsz, hf⟩ := DataW.trod_struct Tryz.underlying23 h
  rw [ck23] at hl
  obtain ⟨v0, v1, v2, rfl⟩ := lst3 hl
  obtain ⟨y0, y1, y2, rfl⟩ := lst3 (show xs.length = 3 from hsz)
  have f0 : DataW.trod enc Tryz.prog w base spare held n 3 [v0] = some y0 := by simpa [ck3] using hf 0 _ rfl
  have f1 : DataW.trod enc Tryz.prog w base spare held n 3 [v1] = some y1 := by simpa [ck3] using hf 1 _ rfl
  have f2 : DataW.trod enc Tryz.prog w base spare held n 3 [v2] = some y2 := by simpa [ck3] using hf 2 _ rfl
  obtain ⟨a, e0, rfl, _⟩ := DataW.trod_int Tryz.underlying3 f0
  obtain ⟨b, e1, rfl, _⟩ := DataW.trod_int Tryz.underlying3 f1
  obtain ⟨c, e2, rfl, _⟩ := DataW.trod_int Tryz.underlying3 f2
  simp only [List.cons.injEq, and_true] at e0 e1 e2
  exact ⟨a, b, c, by rw [e0, e1, e2]⟩
set_option maxRecDepth 20000 in
/-- An argument that is a shape. -/
theorem open_shapeI {w : World} {base : Nat} {spare : Nat → Bool} {held : Bool} {r : Reach} {b0 : Nat} {v : Value} {d : DataW H} {ps : List MemPlace} (hval : Value.okWide Tryz.prog w r b0 23 v) (hd : DataW.Trod enc Tryz.prog w base spare held 23 v d ps) :
    ∃ a b c : Int, v = .agg #[.int .i64 a, .int .i64 b, .int .i64 c] := by
  obtain ⟨cs, rfl, _⟩ := okWide_struct Tryz.underlying23 hval
  obtain ⟨fuel, h⟩ := hd
  obtain ⟨a, b, c, e⟩ := open_shapeC (cs := cs.toList) h
  refine ⟨a, b, c, ?_⟩
  congr 1
  cases cs
  simpa using e
set_option maxRecDepth 20000 in
theorem open_bk {w : World} {base n : Nat} {spare : Nat → Bool} {held : Bool} {a : Addr} {cs : List Value} {x : DataW H × List MemPlace} (hc : w.cells? base a 3 = some cs) (h : DataW.trod enc Tryz.prog w base spare held n 78 cs = some x) :
    ∃ r : Bw, a = ⟨a.block, a.off, none⟩ ∧ w.cell? ⟨a.block, a.off, none⟩ = some (.int .u32 (r.i : Int)) ∧ w.cell? ⟨a.block, a.off + 1, none⟩ = some (.int .i64 r.s) ∧ w.cell? ⟨a.block, a.off + 2, none⟩ = some (.int .i64 r.u) := by
  obtain ⟨_, hlen, hcell⟩ := World.cells?_some hc
  obtain ⟨xs, n, _, rfl, hl, hsz, hf⟩ := DataW.trod_struct Tryz.underlying78 h
  obtain ⟨v0, v1, v2, rfl⟩ := lst3 hlen
  obtain ⟨y0, y1, y2, rfl⟩ := lst3 (show xs.length = 3 from hsz)
  clear hl hsz
  have f0 : DataW.trod enc Tryz.prog w base spare held n 24 [v0] = some y0 := by simpa [ck30] using hf 0 _ rfl
  have f1 : DataW.trod enc Tryz.prog w base spare held n 3 [v1] = some y1 := by simpa [ck3] using hf 1 _ rfl
  have f2 : DataW.trod enc Tryz.prog w base spare held n 2 [v2] = some y2 := by simpa [ck2] using hf 2 _ rfl
  obtain ⟨b0, e0, rfl, wa⟩ := DataW.trod_int Tryz.underlying24 f0
  obtain ⟨b1, e1, rfl, wb⟩ := DataW.trod_int Tryz.underlying3 f1
  obtain ⟨b2, e2, rfl, wc⟩ := DataW.trod_int Tryz.underlying2 f2
  simp only [List.cons.injEq, and_true] at e0 e1 e2
  subst e0 e1 e2
  have ba := bounds_u32 wa
  have g0 := hcell 0 (by omega)
  have ha : a = ⟨a.block, a.off, none⟩ := by
    have h1 : w.cell? a = some (.int .u32 b0) := by simpa [Addr.add] using g0
    have h2 : a.spot = none := by
      unfold World.cell? at h1
      split at h1
      · split at h1
        · cases h1
        · rename_i hs; simpa using hs
      · cases h1
    cases a; simp_all
  rw [ha] at hcell
  refine ⟨⟨b0.toNat, b1, b2⟩, ha, ?_, ?_, ?_⟩
  · have := hcell 0 (by omega)
    simp only
    rw [Int.toNat_of_nonneg (by omega)]
    simpa [Addr.add_lit] using this
  · simpa [Addr.add_lit] using hcell 1 (by omega)
  · simpa [Addr.add_lit] using hcell 2 (by omega)
theorem bwcs_snoc (X : List Bw) (x : Bw) : bwcs (X ++ [x]) = bwcs X ++ bwc x := by simp [bwcs]
theorem open_bksB {w : World} {base len n : Nat} {spare : Nat → Bool} {held : Bool} {a : Addr} {D : Nat → DataW H} {Pl : Nat → List MemPlace}
    (h : ∀ i, i < len → ∃ cs', w.cells? base (a.add (i * 3)) 3 = some cs' ∧ DataW.trod enc Tryz.prog w base spare held n 78 cs' = some (D i, Pl i)) :
    ∃ X : List Bw, X.length = len ∧ BwC w (some a) X := by
  have hex : ∀ i, i < len → ∃ r : Bw, ∀ j u, (bwc r)[j]? = some u → w.cell? (a.add (i * 3 + j)) = some u := by
    intro i hi
    obtain ⟨cs', hc, ht⟩ := h i hi
    obtain ⟨o, _, h1, h2, h3⟩ := open_bk hc ht
    have ha : a = ⟨a.block, a.off, none⟩ := by
      obtain ⟨cs0, hc0, ht0⟩ := h 0 (by omega)
      obtain ⟨_, he, _⟩ := open_bk hc0 ht0
      simpa [Addr.add] using he
    have e1 : (a.add (i * 3)).block = a.block := by unfold Addr.add; split <;> rfl
    have e2 : (a.add (i * 3)).off = a.off + i * 3 := by rw [ha, Addr.add_lit]
    rw [e1, e2] at h1 h2 h3
    refine ⟨o, fun j u hj => ?_⟩
    rw [ha, Addr.add_lit]
    have hj3 : j < 3 := (List.getElem?_eq_some_iff.1 hj).1
    have : j = 0 ∨ j = 1 ∨ j = 2 := by omega
    rcases this with rfl | rfl | rfl
    · simp [bwc] at hj; rw [← hj]; exact h1
    · simp [bwc] at hj; rw [← hj, ← Nat.add_assoc]; exact h2
    · simp [bwc] at hj; rw [← hj, ← Nat.add_assoc]; exact h3
  clear h
  induction len with
  | zero => exact ⟨[], rfl, fun j o h => by simp [bwcs] at h⟩
  | succ k ih =>
    obtain ⟨X, h1, h2⟩ := ih (fun i hi => hex i (by omega))
    obtain ⟨o, g1⟩ := hex k (by omega)
    refine ⟨X ++ [o], by simp [h1], ?_⟩
    intro j u hj
    rw [bwcs_snoc] at hj
    have hbl := bwcs_length X
    by_cases hjk : j < (bwcs X).length
    · rw [List.getElem?_append_left hjk] at hj; exact h2 j u hj
    · rw [List.getElem?_append_right (by omega)] at hj
      have := g1 _ u hj
      refine ⟨a, rfl, ?_⟩
      rw [show k * 3 + (j - (bwcs X).length) = j by rw [hbl, h1]; omega] at this
      exact this
set_option maxRecDepth 20000 in
theorem open_bks {w : World} {base fuel : Nat} {spare : Nat → Bool} {held : Bool} {cs : List Value} {x : DataW H × List MemPlace} (h : DataW.trod enc Tryz.prog w base spare held fuel 25 cs = some x) (hz : ∀ n ∈ x.1.weights Tryz.prog 25, n ≤ reachBytes) :
    ∃ (ao : Option Addr) (len cap : Nat) (X : List Bw), cs = [.slice ao len cap] ∧ X.length = len ∧ BwC w ao X ∧ (ao = none → len = 0 ∧ cap = 0) ∧ len ≤ 5864062014800 := by
  rcases open_slice Tryz.underlying25 h with ⟨hcs, _⟩ | ⟨a, len, cap, m, n, D, Pl, hcs, _, hl, hm, hmm, hx, hel⟩
  · exact ⟨none, 0, 0, [], hcs, rfl, (fun j o h => by simp [bwcs] at h), fun _ => ⟨rfl, rfl⟩, by omega⟩
  · have hlm : len ≤ m := by rw [hmm]; split <;> omega
    rw [ck45] at hel
    obtain ⟨X, h1, h2⟩ := open_bksB (len := len) (fun i hi => hel i (by omega))
    have h3 := hz ((((List.range len).map D).length + ((List.range (m - len)).map fun j => D (len + j)).length) * (20 + 4)) (by
      rw [hx]
      simp only [DataW.weights, Tryz.underlying25, cb45]
      exact List.mem_cons_self)
    simp only [List.length_map, List.length_range, reachBytes] at h3
    exact ⟨some a, len, cap, X, hcs, h1, h2, (fun e => by cases e), by omega⟩
set_option maxRecDepth 20000 in
/-- An argument that tells of a book. -/
theorem open_askI {w : World} {base : Nat} {spare : Nat → Bool} {held : Bool} {r : Reach} {b0 : Nat} {v : Value} {d : DataW H} {ps : List MemPlace} (hval : Value.okWide Tryz.prog w r b0 27 v) (hd : DataW.Trod enc Tryz.prog w base spare held 27 v d ps) (hz : ∀ n ∈ d.weights Tryz.prog 27, n ≤ reachBytes) :
    ∃ (a b c : Int) (n : Nat) (t : Int) (ao : Option Addr) (len cap : Nat) (X : List Bw), v = askV a b c n t ao len cap ∧ X.length = len ∧ BwC w ao X ∧ (ao = none → len = 0 ∧ cap = 0) ∧ len ≤ 5864062014800 ∧ n < 4294967296 := by
  obtain ⟨cs, rfl, _⟩ := okWide_struct Tryz.underlying27 hval
  obtain ⟨fuel, h⟩ := hd
  have h : DataW.trod enc Tryz.prog w base spare held fuel 27 cs.toList = some (d, ps) := h
  obtain ⟨xs, n, _, hx, hl, hsz, hf⟩ := DataW.trod_struct Tryz.underlying27 h
  rw [ck48] at hl
  obtain ⟨v0, v1, v2, v3, v4, v5, hc⟩ := lst6 hl
  obtain ⟨y0, y1, y2, y3, rfl⟩ := lst4 (show xs.length = 4 from hsz)
  rw [hc] at hf
  have f0 : DataW.trod enc Tryz.prog w base spare held n 23 [v0, v1, v2] = some y0 := by simpa [ck23] using hf 0 _ rfl
  have f1 : DataW.trod enc Tryz.prog w base spare held n 24 [v3] = some y1 := by simpa [ck23, ck30] using hf 1 _ rfl
  have f2 : DataW.trod enc Tryz.prog w base spare held n 2 [v4] = some y2 := by simpa [ck23, ck30, ck2] using hf 2 _ rfl
  have f3 : DataW.trod enc Tryz.prog w base spare held n 25 [v5] = some y3 := by simpa [ck23, ck30, ck2, ck31] using hf 3 _ rfl
  obtain ⟨a, b, c, e0⟩ := open_shapeC f0
  obtain ⟨n1, e1, rfl, wn⟩ := DataW.trod_int Tryz.underlying24 f1
  obtain ⟨t, e2, rfl, wt⟩ := DataW.trod_int Tryz.underlying2 f2
  have hd : d = .agg [y0.1, .lit (.int .u32 n1), .lit (.int .i64 t), y3.1] := by
    have := congrArg Prod.fst hx
    simpa using this
  obtain ⟨ao, len, cap, X, e3, h1, h2, h3, h4⟩ := open_bks f3 (fun k hk => hz k (by
    rw [hd]
    simp only [DataW.weights, Tryz.underlying27]
    simp [DataW.weightsEach, DataW.weights, hk]))
  have bn := bounds_u32 wn
  simp only [List.cons.injEq, and_true] at e0 e1 e2 e3
  refine ⟨a, b, c, n1.toNat, t, ao, len, cap, X, ?_, h1, h2, h3, h4, by omega⟩
  unfold askV
  rw [Int.toNat_of_nonneg (by omega)]
  rw [e0.1, e0.2.1, e0.2.2, e1, e2, e3] at hc
  congr 1
  cases cs
  simpa using hc
end Go.Proofs.YtahjckcfcdnlmaaGreat
/- The document's bytes of a book. -/
namespace Go.Proofs.YtahjckcfcdnlmaaGreat
open Go.RowKit
attribute [local go_sem ↓] Go.wp_at_zero Go.wp_at_succ
attribute [local go_sem] Oper.semAt_some
/-- A row of bytes of one's own, made since z. -/
structure Ob (z W : World) (v : Value) (n : Nat) (xs : List Int) : Prop where
  row : W.ownsRow z.heap.size 5 1 v n (xs.map (Value.int .u8))
  gr : z.grownBy W none
theorem Ob.form {z W : World} {v : Value} {n : Nat} {xs : List Int} (h : Ob z W v n xs) : ∃ ao cap, v = .slice ao n cap := by
  obtain ⟨ao, cap, rfl, _⟩ := Ix.own_form h.row
  exact ⟨ao, cap, rfl⟩
theorem Ob.then {z W W' : World} {v : Value} {n : Nat} {xs : List Int} (h : Ob z W v n xs) (g : W.grownBy W' none) : Ob z W' v n xs :=
  ⟨own_keep h.row g, grown_trans h.gr g⟩
theorem Ob.app {z W W' : World} {v v' : Value} {n : Nat} {xs ys : List Int} (h : Ob z W v n xs) (hr : W'.ownsRow z.heap.size 5 1 v' (n + ys.length) (xs.map (Value.int .u8) ++ ys.map (Value.int .u8))) (g : W.grownBy W' v.ownBlock) : Ob z W' v' (n + ys.length) (xs ++ ys) :=
  ⟨by rw [List.map_append]; exact hr, grown_then h.gr g (fun j e => .inl (by have := (Ix.own_block h.row e).1; omega))⟩
theorem div_next (N : Int) (j : Nat) : N / 2 ^ (8 * j) / 256 = N / 2 ^ (8 * (j + 1)) := by
  rw [Oc.pow_succ8, Int.mul_comm, Int.ediv_ediv_of_nonneg (by exact Int.le_of_lt (Int.pow_pos (by omega)))]
set_option maxRecDepth 20000 in
set_option maxHeartbeats 8000000 in
theorem rput_any {z w : World} {v : Value} {n : Nat} {xs : List Int} (h : Ob z w v n xs) (N : Int) (k : Nat) (h0 : 0 ≤ N) (h1 : N < 18446744073709551616) (hk : k ≤ 8) (hn : n ≤ 100000) : Calls Tryz.prog 31 #[v, .int .u64 N, .int .i64 (k : Int)] w fun e w' => ∃ v', e = .returned v' ∧ Ob z w' v' (n + k) (xs ++ Oc.leB N k) := by
  obtain ⟨ao, cap, rfl⟩ := h.form
  have HO := hide h
  have hN1 := hide h1
  clear h h1
  go_enter Tryz.func31, Tryz.ntmps31
  go_wp2
  go_loopg [0, 1, 7] k (fun m b0 n0 i wr => ∃ j : Nat, m + j = k ∧ i = .int .i64 j ∧ n0 = .int .u64 (N / 2 ^ (8 * j)) ∧ ∃ ao cap, b0 = .slice ao (n + j) cap ∧ Hid (Ob z wr (.slice ao (n + j) cap) (n + j) (xs ++ Oc.leB N j)))
  case atStart => exact ⟨0, by omega, rfl, by simp, ao, cap, rfl, by simpa [Oc.leB] using HO⟩
  case round =>
    clear HO
    obtain ⟨j, hkj, rfl, rfl, ao, cap, rfl, HQ⟩ := hrel
    have hM0 : 0 ≤ N / 2 ^ (8 * j) := Int.ediv_nonneg h0 (Int.le_of_lt (Int.pow_pos (by omega)))
    have HMl : Hid (N / 2 ^ (8 * j) < 18446744073709551616) := by
      have := Int.ediv_le_self (2 ^ (8 * j)) h0
      have := hN1.out
      unfold Hid; omega
    by_cases hg : 0 < gk
    · have hj1 : (j : Int) < (k : Int) := by omega
      have HB : Hid (Oc.leB N (j + 1) = Oc.leB N j ++ [N / 2 ^ (8 * j) % 256]) := Oc.leB_succ N j
      have HD := hide (div_next N j)
      generalize hM : N / 2 ^ (8 * j) = M at *
      have ht1 : M.tmod 256 = M % 256 := Int.tmod_eq_emod_of_nonneg hM0
      have ht2 : M.tdiv 256 = M / 256 := Int.tdiv_eq_ediv_of_nonneg hM0
      obtain ⟨B, hB⟩ : ∃ B, M % 256 = B := ⟨_, rfl⟩
      obtain ⟨M2, hM2⟩ : ∃ M2, M / 256 = M2 := ⟨_, rfl⟩
      rw [hB] at ht1 HB
      rw [hM2] at ht2 HD
      have hB8 : IntKind.u8.wrap B = B := by rw [IntKind.wrap_u8]; omega
      have hM0' : ¬ M < 0 := by omega
      have hw2 : IntKind.u64.wrap M2 = M2 := by have := HMl.out; rw [IntKind.wrap_u64]; omega
      have HA : Hid (Oc.At (wr.alloc (.cells #[.int .u8 B] 5)) (some ⟨wr.heap.size, 0, none⟩) [B]) := Oc.at_new wr [B] _ rfl
      have HQa := hide (HQ.out.then (grown_alloc wr (.cells #[.int .u8 B] 5)))
      have HZ := hide HQ.out.gr.size
      clear hM hM0
      go_wp2_with (at_builtin; refine Oc.wpList_append_at rfl (.tmp 13) (.tmp 17) rfl z.heap.size (.slice ao (n + j) cap) (n + j) _ rfl HQa.out.row (some ⟨wr.heap.size, 0, none⟩) 1 1 [B] rfl rfl HA.out (fun e => by cases e) (by omega) HQa.out.gr.size ?_)
      intro v' w' hown hgr
      have H2 := hide (HQa.out.app (ys := [B]) (by simpa [List.map_append, List.append_assoc] using hown) hgr)
      obtain ⟨ao2, cap2, rfl⟩ := H2.out.form
      clear hown hgr
      go_wp2
      go_roundg (gk - 1)
      case measure => omega
      case rel =>
        refine ⟨j + 1, by omega, by go_num, by rw [HD.out], ao2, cap2, rfl, ?_⟩
        have := H2.out
        rw [HB.out, ← List.append_assoc]
        exact this
    · have hje : j = k := by omega
      subst hje
      have g1 : ¬ (j : Int) < (j : Int) := by omega
      go_wp2
      go_ret
      exact ⟨_, rfl, HQ.out⟩
theorem Ob.nil (w W : World) (g : w.grownBy W none) : Ob w W (.slice none 0 0) 0 [] := ⟨by simpa using World.ownsRow_nil W w.heap.size 5 1, g⟩
set_option maxRecDepth 20000 in
set_option maxHeartbeats 8000000 in
theorem rPut_any {w : World} {S : Sb} (ho : S.Ok) {ao : Option Addr} {cap : Nat} (hv : BgA w (.slice ao S.L.length cap) S.L) : Calls Tryz.prog 10 #[askV S.a S.b S.c S.n S.t ao S.L.length cap] w fun e w' => ∃ v, e = .returned v ∧ Ob w w' v (img S).length (img S) := by
  have h1 := ho.a1; have h2 := ho.b1; have h3 := ho.n1; have h4 := ho.t0; have h5 := ho.t1; have h6 := ho.few
  simp only [mxC] at h5
  have HP : Hid (∀ z W v n xs (N : Int) (k : Nat), 0 ≤ N → N < 18446744073709551616 → k ≤ 8 → n ≤ 100000 → Ob z W v n xs → Calls Tryz.prog 31 #[v, .int .u64 N, .int .i64 (k : Int)] W fun e w' => ∃ v', e = .returned v' ∧ Ob z w' v' (n + k) (xs ++ Oc.leB N k)) := fun z W v n xs N k q0 q1 q2 q3 h => rput_any h N k q0 q1 q2 q3
  have HX := hide (ask6.new w 28 (.int .i64 (S.a : Int)) (.int .i64 (S.b : Int)) (.int .i64 (S.c : Int)) (.int .u32 (S.n : Int)) (.int .i64 S.t) (.slice ao S.L.length cap))
  have HG := hide (grown_alloc w (.cells [.int .i64 (S.a : Int), .int .i64 (S.b : Int), .int .i64 (S.c : Int), .int .u32 (S.n : Int), .int .i64 S.t, .slice ao S.L.length cap].toArray 28))
  have HV : Hid (∀ W, w.grownBy W none → ∀ i, i < S.L.length → ∃ g, ao = some ⟨g, 0, none⟩ ∧ W.cell? ⟨g, i * 3, none⟩ = some (.int .u32 ((rd S.L i).i : Int)) ∧ W.cell? ⟨g, i * 3 + 1, none⟩ = some (.int .i64 ((rd S.L i).s : Int)) ∧ W.cell? ⟨g, i * 3 + 2, none⟩ = some (.int .i64 (rd S.L i).u)) := by
    intro W hW i hi
    obtain ⟨vo', vcap', he', hrow'⟩ := (hv.then hW).ex
    have e0 : vo' = ao := by simp at he'; exact he'.1.symm
    rw [← e0]
    exact hrow' i hi
  have e1 : IntKind.u64.wrap (S.a : Int) = (S.a : Int) := by rw [IntKind.wrap_u64]; omega
  have e2 : IntKind.u64.wrap (S.b : Int) = (S.b : Int) := by rw [IntKind.wrap_u64]; omega
  have e3 : IntKind.u64.wrap (S.n : Int) = (S.n : Int) := by rw [IntKind.wrap_u64]; omega
  have e4 : IntKind.u64.wrap S.t = S.t := by rw [IntKind.wrap_u64]; omega
  have e5 : IntKind.u64.wrap (S.L.length : Int) = (S.L.length : Int) := by rw [IntKind.wrap_u64]; omega
  have H1 : Hid (∀ z W v n xs, n ≤ 100000 → Ob z W v n xs → Calls Tryz.prog 31 #[v, .int .u64 (S.a : Int), .int .i64 2] W fun e w' => ∃ v', e = .returned v' ∧ Ob z w' v' (n + 2) (xs ++ Oc.leB (S.a : Int) 2)) := fun z W v n xs q h => HP.out z W v n xs _ 2 (by omega) (by omega) (by omega) q h
  have H2 : Hid (∀ z W v n xs, n ≤ 100000 → Ob z W v n xs → Calls Tryz.prog 31 #[v, .int .u64 (S.b : Int), .int .i64 4] W fun e w' => ∃ v', e = .returned v' ∧ Ob z w' v' (n + 4) (xs ++ Oc.leB (S.b : Int) 4)) := fun z W v n xs q h => HP.out z W v n xs _ 4 (by omega) (by omega) (by omega) q h
  have H3 : Hid (∀ z W v n xs, n ≤ 100000 → Ob z W v n xs → Calls Tryz.prog 31 #[v, .int .u64 (S.n : Int), .int .i64 4] W fun e w' => ∃ v', e = .returned v' ∧ Ob z w' v' (n + 4) (xs ++ Oc.leB (S.n : Int) 4)) := fun z W v n xs q h => HP.out z W v n xs _ 4 (by omega) (by omega) (by omega) q h
  have H4 : Hid (∀ z W v n xs, n ≤ 100000 → Ob z W v n xs → Calls Tryz.prog 31 #[v, .int .u64 S.t, .int .i64 8] W fun e w' => ∃ v', e = .returned v' ∧ Ob z w' v' (n + 8) (xs ++ Oc.leB S.t 8)) := fun z W v n xs q h => HP.out z W v n xs _ 8 (by omega) (by omega) (by omega) q h
  have H5 : Hid (∀ z W v n xs, n ≤ 100000 → Ob z W v n xs → Calls Tryz.prog 31 #[v, .int .u64 (S.L.length : Int), .int .i64 2] W fun e w' => ∃ v', e = .returned v' ∧ Ob z w' v' (n + 2) (xs ++ Oc.leB (S.L.length : Int) 2)) := fun z W v n xs q h => HP.out z W v n xs _ 2 (by omega) (by omega) (by omega) q h
  have HHd : Hid (((((([] : List Int) ++ Oc.leB (S.a : Int) 2) ++ Oc.leB (S.b : Int) 4) ++ Oc.leB (S.n : Int) 4) ++ Oc.leB S.t 8) ++ Oc.leB (S.L.length : Int) 2 = imH S.a S.b S.n S.t S.L.length) := by unfold Hid; simp [imH, List.append_assoc]
  have HBk : Hid (∀ j, j < S.L.length → ((rd S.L j).i : Int) < 18446744073709551616 ∧ ((rd S.L j).s : Int) < 18446744073709551616 ∧ 0 ≤ (rd S.L j).u ∧ (rd S.L j).u < 18446744073709551616) := by
    intro j hj
    obtain ⟨q1, q2, q3, q4⟩ := ho.rng _ (rd_mem hj)
    simp only [mxC] at q4
    omega
  have hL4 : S.L.length ≤ 4096 := by omega
  have HIm : Hid (∀ z W v, w.grownBy z none → Ob z W v (20 + 14 * S.L.length) (imH S.a S.b S.n S.t S.L.length ++ imBs (S.L.take S.L.length)) → Ob w W v (img S).length (img S)) := by
    intro z W v hz h
    rw [List.take_length] at h
    rw [img_length]
    exact ⟨own_base h.row hz.size, grown_trans hz h.gr⟩
  clear hv ho h1 h2 h3 h4 h5 h6
  unfold askV
  generalize imH S.a S.b S.n S.t S.L.length = hd at *
  generalize (S.a : Int) = A at *
  generalize (S.b : Int) = B at *
  generalize (S.c : Int) = C at *
  generalize (S.n : Int) = Nn at *
  generalize S.t = Tt at *
  go_enter Tryz.func10, Tryz.ntmps10
  obtain ⟨d0, d1, d2, d3, d4, d5⟩ := HX.out
  go_wp2_with fail
  generalize World.alloc w _ = w0 at *
  refine (H1.out w0 _ _ _ _ (by omega) (Ob.nil w0 w0 (grown_refl _ _))).mono ?_
  rintro e w1 ⟨v1, rfl, k1⟩
  have K1 := hide k1
  obtain ⟨ao1, cap1, rfl⟩ := k1.form
  clear k1 d0 d1 d2 d3 d4 d5
  obtain ⟨d0, d1, d2, d3, d4, d5⟩ := HX.out.then K1.out.gr
  go_wp2_with fail
  refine (H2.out w0 _ _ _ _ (by omega) K1.out).mono ?_
  rintro e w2 ⟨v2, rfl, k2⟩
  have K2 := hide k2
  obtain ⟨ao2, cap2, rfl⟩ := k2.form
  clear k2 d0 d1 d2 d3 d4 d5
  obtain ⟨d0, d1, d2, d3, d4, d5⟩ := HX.out.then K2.out.gr
  go_wp2_with fail
  refine (H3.out w0 _ _ _ _ (by omega) K2.out).mono ?_
  rintro e w3 ⟨v3, rfl, k3⟩
  have K3 := hide k3
  obtain ⟨ao3, cap3, rfl⟩ := k3.form
  clear k3 d0 d1 d2 d3 d4 d5
  obtain ⟨d0, d1, d2, d3, d4, d5⟩ := HX.out.then K3.out.gr
  go_wp2_with fail
  refine (H4.out w0 _ _ _ _ (by omega) K3.out).mono ?_
  rintro e w4 ⟨v4, rfl, k4⟩
  have K4 := hide k4
  obtain ⟨ao4, cap4, rfl⟩ := k4.form
  clear k4 d0 d1 d2 d3 d4 d5
  obtain ⟨d0, d1, d2, d3, d4, d5⟩ := HX.out.then K4.out.gr
  go_wp2_with fail
  refine (H5.out w0 _ _ _ _ (by omega) K4.out).mono ?_
  rintro e w5 ⟨v5, rfl, k5⟩
  have K5 : Hid (Ob w0 w5 v5 (20 + 14 * 0) (hd ++ imBs (S.L.take 0))) := hide (by
    have := k5
    rw [HHd.out] at this
    simpa [imBs] using this)
  obtain ⟨ao5, cap5, rfl⟩ := k5.form
  clear k5 d0 d1 d2 d3 d4 d5 K1 K2 K3 K4 H1 H2 H3 H4 H5
  have hLw : (S.L.length : Int) ≤ 4096 := by omega
  go_wp2
  go_loopg [3, 4] S.L.length (fun m b0 i wr => ∃ j : Nat, m + j = S.L.length ∧ i = .int .i64 j ∧ ∃ bo bc, b0 = .slice bo (20 + 14 * j) bc ∧ Hid (Ob w0 wr (.slice bo (20 + 14 * j) bc) (20 + 14 * j) (hd ++ imBs (S.L.take j))))
  case atStart => exact ⟨0, by omega, rfl, _, _, rfl, K5.out⟩
  case round =>
    clear K5
    obtain ⟨j, hkj, rfl, bo, bc, rfl, HQ⟩ := hrel
    obtain ⟨d0, d1, d2, d3, d4, d5⟩ := HX.out.then HQ.out.gr
    by_cases hg : 0 < gk
    · have hj : j < S.L.length := by omega
      have g1 : (0 : Int) ≤ (j : Int) := by omega
      have g2 : (j : Int) < (S.L.length : Int) := by omega
      have HT : Hid (imBs (S.L.take (j + 1)) = imBs (S.L.take j) ++ (Oc.leB ((rd S.L j).i : Int) 4 ++ (Oc.leB ((rd S.L j).s : Int) 2 ++ Oc.leB (rd S.L j).u 8))) := by rw [← take_rd hj, imBs_snoc]; rfl
      obtain ⟨q1, q2, q3, q4⟩ := HBk.out j hj
      have HC : Hid (∀ W, w0.grownBy W none → ∃ g, ao = some ⟨g, 0, none⟩ ∧ W.cell? ⟨g, j * 3, none⟩ = some (.int .u32 ((rd S.L j).i : Int)) ∧ W.cell? ⟨g, j * 3 + 1, none⟩ = some (.int .i64 ((rd S.L j).s : Int)) ∧ W.cell? ⟨g, j * 3 + 2, none⟩ = some (.int .i64 (rd S.L j).u)) := fun W k => HV.out W (grown_trans HG.out k) j hj
      have f1 : IntKind.u64.wrap ((rd S.L j).i : Int) = ((rd S.L j).i : Int) := by rw [IntKind.wrap_u64]; omega
      have f2 : IntKind.u64.wrap ((rd S.L j).s : Int) = ((rd S.L j).s : Int) := by rw [IntKind.wrap_u64]; omega
      have f3 : IntKind.u64.wrap (rd S.L j).u = (rd S.L j).u := by rw [IntKind.wrap_u64]; omega
      have P1 : Hid (∀ W v n xs, n ≤ 100000 → Ob w0 W v n xs → Calls Tryz.prog 31 #[v, .int .u64 ((rd S.L j).i : Int), .int .i64 4] W fun e w' => ∃ v', e = .returned v' ∧ Ob w0 w' v' (n + 4) (xs ++ Oc.leB ((rd S.L j).i : Int) 4)) := fun W v n xs q h => HP.out w0 W v n xs _ 4 (by omega) (by omega) (by omega) q h
      have P2 : Hid (∀ W v n xs, n ≤ 100000 → Ob w0 W v n xs → Calls Tryz.prog 31 #[v, .int .u64 ((rd S.L j).s : Int), .int .i64 2] W fun e w' => ∃ v', e = .returned v' ∧ Ob w0 w' v' (n + 2) (xs ++ Oc.leB ((rd S.L j).s : Int) 2)) := fun W v n xs q h => HP.out w0 W v n xs _ 2 (by omega) (by omega) (by omega) q h
      have P3 : Hid (∀ W v n xs, n ≤ 100000 → Ob w0 W v n xs → Calls Tryz.prog 31 #[v, .int .u64 (rd S.L j).u, .int .i64 8] W fun e w' => ∃ v', e = .returned v' ∧ Ob w0 w' v' (n + 8) (xs ++ Oc.leB (rd S.L j).u 8)) := fun W v n xs q h => HP.out w0 W v n xs _ 8 (by omega) (by omega) (by omega) q h
      obtain ⟨g, rfl, z0, z1, z2⟩ := HC.out wr HQ.out.gr
      generalize ((rd S.L j).i : Int) = xi at *
      generalize ((rd S.L j).s : Int) = xs at *
      generalize (rd S.L j).u = xu at *
      clear q1 q2 q3 q4
      go_wp2_with fail
      refine (P1.out _ _ _ _ (by omega) HQ.out).mono ?_
      rintro e w6 ⟨v6, rfl, k6⟩
      have K6 := hide k6
      obtain ⟨ao6, cap6, rfl⟩ := k6.form
      clear k6 d0 d1 d2 d3 d4 d5 z0 z1 z2
      obtain ⟨d0, d1, d2, d3, d4, d5⟩ := HX.out.then K6.out.gr
      obtain ⟨g', hg', z0, z1, z2⟩ := HC.out w6 K6.out.gr
      obtain rfl : g = g' := by simpa using hg'
      clear hg'
      go_wp2_with fail
      refine (P2.out _ _ _ _ (by omega) K6.out).mono ?_
      rintro e w7 ⟨v7, rfl, k7⟩
      have K7 := hide k7
      obtain ⟨ao7, cap7, rfl⟩ := k7.form
      clear k7 d0 d1 d2 d3 d4 d5 z0 z1 z2
      obtain ⟨d0, d1, d2, d3, d4, d5⟩ := HX.out.then K7.out.gr
      obtain ⟨g', hg', z0, z1, z2⟩ := HC.out w7 K7.out.gr
      obtain rfl : g = g' := by simpa using hg'
      clear hg'
      go_wp2_with fail
      refine (P3.out _ _ _ _ (by omega) K7.out).mono ?_
      rintro e w8 ⟨v8, rfl, k8⟩
      have K8 : Hid (Ob w0 w8 v8 (20 + 14 * (j + 1)) (hd ++ imBs (S.L.take (j + 1)))) := by
        have := k8
        rw [List.append_assoc, List.append_assoc, List.append_assoc, ← HT.out] at this
        rw [show 20 + 14 * (j + 1) = 20 + 14 * j + 4 + 2 + 8 by omega]
        exact this
      obtain ⟨ao8, cap8, rfl⟩ := K8.out.form
      clear k8 d0 d1 d2 d3 d4 d5 z0 z1 z2
      go_wp2
      go_roundg (gk - 1)
      case measure => omega
      case rel => exact ⟨j + 1, by omega, by go_num, _, _, rfl, K8.out⟩
    · have hje : j = S.L.length := by omega
      have g1 : ¬ (j : Int) < (S.L.length : Int) := by omega
      have HF : Hid (Ob w wr (.slice bo (20 + 14 * j) bc) (img S).length (img S)) := by
        have := HQ.out
        rw [hje] at this ⊢
        exact HIm.out w0 _ _ HG.out this
      clear hje
      go_wp2
      go_ret
      exact ⟨_, rfl, HF.out⟩
end Go.Proofs.YtahjckcfcdnlmaaGreat
/- Rows of bytes, and the marks of places: shared by the texts on lists that lie apart. -/
namespace Go.Proofs.YtahjckcfcdnlmaaGreat.Ap
open Go.RowKit

theorem hide {p : Prop} (h : p) : Hid p := h

theorem grown_then {a b c : World} {row row' : Option Nat} (h : a.grownBy b row) (k : b.grownBy c row') (hr : ∀ j, row' = some j → a.heap.size ≤ j ∨ row = some j) : a.grownBy c row :=
  ⟨k.os.trans h.os, k.tape.trans h.tape, k.output.trans h.output, Nat.le_trans h.size k.size, fun i hi hne =>
    (k.block i (Nat.lt_of_lt_of_le hi h.size) (fun e => by
      rcases hr i e.symm with h1 | h1
      · omega
      · exact hne h1.symm)).trans (h.block i hi hne)⟩
theorem grown_trans {a b c : World} {row : Option Nat} (h : a.grownBy b row) (k : b.grownBy c row) : a.grownBy c row := grown_then h k (fun _ e => Or.inr e)
theorem grown_refl (w : World) (row : Option Nat) : w.grownBy w row := ⟨rfl, rfl, rfl, Nat.le_refl _, fun _ _ _ => rfl⟩
theorem grown_drew (w : World) (row : Option Nat) : w.grownBy w.drew row := ⟨rfl, rfl, rfl, Nat.le_refl _, fun _ _ _ => rfl⟩
theorem grown_none {a b : World} (h : a.grownBy b none) (row : Option Nat) : a.grownBy b row := grown_then (grown_refl a row) h (fun _ e => by cases e)
theorem grown_setCell (w : World) (g j : Nat) (u : Value) : w.grownBy (w.setCell ⟨g, j, none⟩ u) (some g) :=
  ⟨rfl, rfl, rfl, by simp [World.setCell], fun k _ hne => Below.heap_setCell _ _ _ _ (by intro e; exact hne (by simp [e]))⟩
theorem grown_below {a b : World} (h : a.grownBy b none) : Below a.heap.size a b := ⟨h.os, h.tape, h.output, h.size, fun k hk => h.block k hk (fun e => by cases e)⟩
theorem below_grown {a b : World} (h : Below a.heap.size a b) : a.grownBy b none := ⟨h.os, h.tape, h.output, h.size, fun k hk _ => h.block k hk⟩

theorem cell_row {w : World} {g : Nat} {l : List Value} {t : TypeId} {fr : Nat × Nat} (h : w.heap[g]? = some (.cells l.toArray t fr)) (j : Nat) : w.cell? ⟨g, j, none⟩ = l[j]? := by
  rw [cell_of_row w g j l.toArray t fr h]; simp
theorem free_row {w : World} {g : Nat} {c : Array Value} {t : TypeId} (h : w.heap[g]? = some (.cells c t (0, 0))) (j : Nat) : w.frozen? ⟨g, j, none⟩ = false := by
  simp [World.frozen?, h]
theorem row_setCell {w : World} {g : Nat} {l : List Value} {t : TypeId} {fr : Nat × Nat} (h : w.heap[g]? = some (.cells l.toArray t fr)) (j : Nat) (u : Value) : (w.setCell ⟨g, j, none⟩ u).heap[g]? = some (.cells (l.set j u).toArray t fr) := by
  simp [World.setCell, Array.getElem?_modify, h]
theorem row_lt {w : World} {g : Nat} {o : Obj} (h : w.heap[g]? = some o) : g < w.heap.size := (Array.getElem?_eq_some_iff.1 h).1


/-- The bytes xs lie where ao leads. -/
def At (w : World) (ao : Option Addr) (xs : List Nat) : Prop := ∀ j u, xs[j]? = some u → ∃ a, ao = some a ∧ w.cell? (a.add j) = some (.int .u8 ((u : Nat) : Int))
theorem addr_add_block (a : Addr) (j : Nat) : (a.add j).block = a.block := by unfold Addr.add; split <;> rfl
theorem At.nil (w : World) (ao : Option Addr) : At w ao [] := fun j u h => by simp at h
theorem At.kept {w w' : World} {ao : Option Addr} {xs : List Nat} {row : Option Nat} (h : At w ao xs) (hg : w.grownBy w' row) (hr : ∀ a, ao = some a → some a.block ≠ row) : At w' ao xs := by
  intro j u hu
  obtain ⟨a, ha, hcell⟩ := h j u hu
  exact ⟨a, ha, hg.cell hcell (by rw [addr_add_block]; exact hr a ha)⟩
theorem At.grown {w w' : World} {ao : Option Addr} {xs : List Nat} (h : At w ao xs) (hg : w.grownBy w' none) : At w' ao xs := h.kept hg (by simp)
/-- They are bytes. -/
def Bytes (xs : List Nat) : Prop := ∀ x ∈ xs, x < 256

theorem Tryz.info5 : (Tryz.prog.info? 5).map (fun i => (i.zero, i.size, i.bytes)) = some (some (.int .u8 0), 1, 1) := by kernel_rfl

/-- Bytes as they lie in cells. -/
def bv (xs : List Nat) : List Value := xs.map fun (x : Nat) => Value.int .u8 (x : Int)
theorem bv_length (xs : List Nat) : (bv xs).length = xs.length := by simp [bv]
theorem bv_append (xs ys : List Nat) : bv (xs ++ ys) = bv xs ++ bv ys := by simp [bv]
theorem bv_get (xs : List Nat) (j u : Nat) (h : xs[j]? = some u) : (bv xs)[j]? = some (.int .u8 (u : Int)) := by simp [bv, h]
theorem bv_set (xs : List Nat) (j u : Nat) : bv (xs.set j u) = (bv xs).set j (.int .u8 (u : Int)) := by simp [bv, List.map_set]
theorem At.take {w : World} {ao : Option Addr} {xs : List Nat} (h : At w ao xs) (j : Nat) : At w ao (xs.take j) := by
  intro i u hu
  rw [List.getElem?_take] at hu
  split at hu
  · exact h i u hu
  · cases hu
theorem at_row {w : World} {A : Nat} {xs : List Nat} {t : TypeId} {fr : Nat × Nat} (h : w.heap[A]? = some (.cells (bv xs).toArray t fr)) : At w (some ⟨A, 0, none⟩) xs := by
  intro j u hu
  refine ⟨_, rfl, ?_⟩
  rw [Addr.add_lit, Nat.zero_add, cell_row h, bv_get xs j u hu]
theorem at_new (w : World) (xs : List Nat) (C : Array Value) (hC : C = (bv xs).toArray) (t : TypeId) : At (w.alloc (.cells C t)) (some ⟨w.heap.size, 0, none⟩) xs := by
  subst hC; exact at_row (heap_alloc_new w _)
/-- append(s, x...), s the call's own, x bytes that lie somewhere (or nil). -/
theorem wpList_append_at {w : World} {ops : Array Oper} {rest : List Oper} {o : Oper} {a : Act} {Q : Exit → Act → World → Prop} (hgd : o.guard = none) (s x : Operand)
    (ho : o.op = .call { callee := .builtin .append, args := #[s, x], argTypes := #[36, 36] }) (base : Nat) (v : Value) (n : Nat) (xs : List Nat) (hs : a.eval s = v) (hown : w.ownsRow base 5 1 v n (bv xs))
    (ao : Option Addr) (m c : Nat) (ys : List Nat) (hx : a.eval x = .slice ao m c) (hm : ys.length = m) (hat : At w ao ys) (hnil : ao = none → m = 0 ∧ c = 0)
    (hbytes : n + m ≤ 140737488355328) (hbase : base ≤ w.heap.size)
    (h : ∀ v' w', w'.ownsRow base 5 1 v' (n + m) (bv (xs ++ ys)) → w.grownBy w' v.ownBlock → wpList Tryz.prog ops Q rest (a.put o.dst v') w') : wpList Tryz.prog ops Q (o :: rest) a w := by
  obtain ⟨i0, hi, hz0, hz1, hz2⟩ := info_parts Tryz.info5
  cases ao with
  | none =>
    obtain ⟨rfl, rfl⟩ := hnil rfl
    refine wpList_append_own_none hgd s x 36 ho base 5 i0 1 Tryz.underlying36 hi v n (bv xs) hs hown hx (h v w ?_ (grown_refl w _))
    have : ys = [] := List.eq_nil_of_length_eq_zero hm
    subst this
    simpa using hown
  | some ad =>
    refine wpList_append_own _ hgd s x 36 ho base 5 i0 (.int .u8 0) 1 1 Tryz.underlying36 hi hz0 hz1 hz2 rfl (by decide) v n (bv xs) hs hown ad m c (bv ys) hx (by simp [bv_length, hm]) ?_ ?_ (by unfold maxLen; omega) (by omega) hbase (fun v' w' h1 h2 _ => h v' w' (by rw [bv_append]; exact h1) h2)
    · intro j u hu
      rw [bv, List.getElem?_map] at hu
      cases hj : ys[j]? with
      | none => simp [hj] at hu
      | some y =>
        simp [hj] at hu
        obtain ⟨a', ha', hc'⟩ := hat j y hj
        cases ha'
        rw [← hu]; exact hc'
    · intro u hu; rw [bv, List.mem_map] at hu; obtain ⟨y, _, rfl⟩ := hu; rfl

/-- An owned row of bytes, as bytes that lie somewhere. -/
theorem own_at {w : World} {base n : Nat} {v : Value} {xs : List Nat} (h : w.ownsRow base 5 1 v n (bv xs)) :
    ∃ ao cap, v = .slice ao n cap ∧ xs.length = n ∧ n ≤ cap ∧ cap ≤ maxLen ∧ At w ao xs ∧ (ao = none → n = 0 ∧ cap = 0) ∧ (∀ a, ao = some a → a = ⟨a.block, 0, none⟩ ∧ base ≤ a.block ∧ a.block < w.heap.size) := by
  obtain ⟨hl, h⟩ := h
  simp [bv_length] at hl
  rcases h with ⟨rfl, rfl⟩ | ⟨g, cap, cur, rfl, hb, hg, hn, hm, hs, ht⟩
  · have : xs = [] := List.eq_nil_of_length_eq_zero hl
    subst this
    exact ⟨none, 0, rfl, rfl, Nat.le_refl _, Nat.zero_le _, At.nil _ _, fun _ => ⟨rfl, rfl⟩, fun a e => by cases e⟩
  · refine ⟨some ⟨g, 0, none⟩, cap, rfl, hl, hn, hm, ?_, (fun e => by cases e), fun a e => by cases e; exact ⟨rfl, hb, row_lt hg⟩⟩
    intro j u hu
    refine ⟨_, rfl, ?_⟩
    rw [Addr.add_lit, Nat.zero_add, cell_of_row w g j cur 5 (0, 0) hg]
    have h1 : (cur.toList.take (n * 1))[j]? = some (Value.int .u8 u) := by rw [ht]; exact bv_get xs j u hu
    rw [List.getElem?_take] at h1
    split at h1
    · simpa using h1
    · cases h1

theorem grown_drewN (w : World) (n : Nat) (row : Option Nat) : w.grownBy (w.drewN n) row := ⟨rfl, rfl, rfl, Nat.le_refl _, fun _ _ _ => rfl⟩
attribute [local go_sem ↓] Go.wp_at_zero Go.wp_at_succ

/-- The mark of a place. -/
def markB (k i : Int) : Int := IntKind.u64.wrap ((1000003 * (k + 7) + i) * 11400714819323198485) / 72057594037927936 % 256
theorem markB_byte (k i : Int) : 0 ≤ markB k i ∧ markB k i < 256 := by unfold markB; omega
set_option maxHeartbeats 400000 in
theorem mark_any (k i : Int) (w : World) (_hk0 : 0 ≤ k) (_hk : k ≤ 1000000) (_hi0 : 0 ≤ i) (_hi : i ≤ 1000000000000000000) :
    Calls Tryz.prog 91 #[.int .i64 k, .int .i64 i] w fun e w' => e = .returned (.int .u8 (markB k i)) ∧ w' = w := by
  go_enter Tryz.func91, Tryz.ntmps91
  go_wp2
  go_ret
  exact ⟨rfl, rfl⟩

/-- The first j marks. -/
def mkN (k : Int) (i : Nat) : Nat := (markB k (i : Int)).toNat
theorem mkN_cast (k : Int) (i : Nat) : markB k (i : Int) = ((mkN k i : Nat) : Int) := by have := markB_byte k (i : Int); unfold mkN; omega
def marks (k : Int) (j : Nat) : List Nat := (List.range j).map fun (i : Nat) => mkN k i
theorem marks_length (k : Int) (j : Nat) : (marks k j).length = j := by simp [marks]
theorem marks_succ (k : Int) (j : Nat) : marks k (j + 1) = marks k j ++ [mkN k j] := by simp [marks, List.range_succ]
theorem marks_get (k : Int) (j i : Nat) (h : i < j) : (marks k j)[i]? = some (mkN k i) := by simp [marks, h]
theorem markN_any (k : Int) (i : Nat) (w : World) (hk0 : 0 ≤ k) (hk : k ≤ 1000000) (hi : i ≤ 1000000000000000000) :
    Calls Tryz.prog 91 #[.int .i64 k, .int .i64 (i : Int)] w fun e w' => e = .returned (.int .u8 ((mkN k i : Nat) : Int)) ∧ w' = w := by
  rw [← mkN_cast]; exact mark_any k (i : Int) w hk0 hk (by omega) (by omega)

theorem made_zrow (n : Nat) : madeCells #[.int .u8 0] n = (List.replicate n (Value.int .u8 0)).toArray := by
  apply Array.ext'
  rw [toList_madeCells_one]
def zrow (n : Nat) : List Value := List.replicate n (.int .u8 0)
theorem slice_to (ao : Option Addr) (len cap n : Nat) (h : n ≤ cap) (w : World) : (Instr.slice 36 (.slice ao len cap) none (some (.int .i64 (n : Int))) none).run Tryz.prog w = .ok (.slice ao n cap) w := by
  simp [Instr.slice, run_underlying Tryz.underlying36, Instr.sliceBounds, Instr.sliceBound, asIntOf, h]
  intro _; cases ao <;> simp [Addr.add]
theorem make_cap (n : Nat) (h : n ≤ 140737488355328) (w : World) : (Instr.makeSlice 36 (.int .i64 0) (.int .i64 ((n : Int) + 12))).run Tryz.prog w = .ok (.slice (some ⟨w.heap.size, 0, none⟩) 0 (n + 12)) (w.alloc (.cells (zrow (n + 12)).toArray 5)) := by
  obtain ⟨i0, hi, hz0, hz1, hz2⟩ := info_parts Tryz.info5
  rw [run_make (P := Tryz.prog) (w := w) 36 5 i0 (.int .u8 0) Tryz.underlying36 hi hz0 .i64 .i64 0 ((n : Int) + 12) (by omega) (by omega) (by rw [hz2]; omega) (by omega), hz1]
  have e : ((n : Int) + 12).toNat = n + 12 := by omega
  rw [e, Nat.mul_one]
  show Result.ok _ (w.alloc (.cells (madeCells #[.int .u8 0] (n + 12)) 5)) = _
  rw [made_zrow]
  rfl

theorem cell_new (w : World) (v : Value) (t : TypeId) : (w.alloc (.cells #[v] t)).cell? ⟨w.heap.size, 0, none⟩ = some v := by
  rw [cell_of_row _ _ 0 #[v] t (0, 0) (heap_alloc_new w _)]; rfl

end Go.Proofs.YtahjckcfcdnlmaaGreat.Ap
/- Rows of bytes that lie apart: what keeps them; append that leaves the row ahead of it as it was. Plain lemmas for flatBytes. -/
namespace Go.Proofs.YtahjckcfcdnlmaaGreat.Ap
open Go.RowKit

theorem ownsRow_le {w : World} {base base' size n : Nat} {e : TypeId} {v : Value} {xs : List Value} (h : w.ownsRow base e size v n xs) (hb : base' ≤ base) : w.ownsRow base' e size v n xs := by
  refine ⟨h.1, ?_⟩
  rcases h.2 with h1 | ⟨g, cap, cur, h1, h2, h3⟩
  · exact Or.inl h1
  · exact Or.inr ⟨g, cap, cur, h1, by omega, h3⟩
/-- append(s, x...), s the call's own, x bytes that lie somewhere: s still reads as it did; what is answered lies where s lies, or in a new place. -/
theorem run_append_keep (w : World) (ty : TypeId) (base : Nat) (v : Value) (n : Nat) (xs : List Value) (hown : w.ownsRow base 5 1 v n xs) (a : Addr) (m c : Nat) (ys : List Nat) (hl : ys.length = m) (h0 : 0 < m) (hat : At w (some a) ys)
    (hbytes : n + m ≤ 140737488355328) (hbase : base ≤ w.heap.size) :
    ∃ v' w', (Builtin.append_ #[36, 36] ty #[v, .slice (some a) m c]).run Tryz.prog w = .ok v' w' ∧ w'.ownsRow base 5 1 v' (n + m) (xs ++ bv ys) ∧ w'.ownsRow base 5 1 v n xs ∧ w.grownBy w' v.ownBlock ∧
      (v'.ownBlock = v.ownBlock ∨ ∀ k, v'.ownBlock = some k → w.heap.size ≤ k) := by
  obtain ⟨i0, hi, hz0, hz1, hz2⟩ := info_parts Tryz.info5
  have hnews : ∀ j u, (bv ys)[j]? = some u → w.cell? (a.add j) = some u := by
    intro j u hu
    rw [bv, List.getElem?_map] at hu
    cases hj : ys[j]? with
    | none => simp [hj] at hu
    | some y =>
      simp [hj] at hu
      obtain ⟨a', ha', hc'⟩ := hat j y hj
      cases ha'
      rw [← hu]; exact hc'
  have h1 : ∀ u ∈ bv ys, u.oneCell' = true := by intro u hu; rw [bv, List.mem_map] at hu; obtain ⟨y, _, rfl⟩ := hu; rfl
  have hbl : (bv ys).length = m := by rw [bv_length, hl]
  rcases hown.2 with ⟨rfl, rfl⟩ | ⟨g, cap, cur, rfl, hbg, hg, hnc, hcm, hcs, htake⟩
  · have hx : xs = [] := List.eq_nil_of_length_eq_zero (by simpa using hown.1)
    subst hx
    have hr := run_append_nil (P := Tryz.prog) w 36 ty 5 i0 (.int .u8 0) Tryz.underlying36 hi hz0 a m c (bv ys) (by rw [hz1, hbl, Nat.mul_one]) hnews h0 (by omega) (by rw [hz2]; omega)
    have hge := grownCap_ge w m 0 5
    have hcm2 : grownCap w m 0 5 ≤ maxLen := grownCap_le_maxLen w m 0 5 (by unfold maxLen; omega)
    have hgr : w.grownBy (w.drew.alloc (.cells ((bv ys).toArray ++ Builtin.zeroCells (Value.int .u8 0).cells (grownCap w m 0 5 - m)) 5)) none := grown_trans (grown_drew w none) (World.grownBy_alloc w.drew _ none)
    refine ⟨_, _, hr, ⟨by simp [hbl], .inr ⟨w.heap.size, _, _, by rw [Nat.zero_add], hbase, heap_alloc_new w.drew _, by omega, hcm2, ?_, ?_⟩⟩, World.ownsRow_nil _ _ _ _, hgr, Or.inr (fun k e => by cases e; exact Nat.le_refl _)⟩
    · simp only [Array.size_append, List.size_toArray, size_zeroCells, hbl, Nat.mul_one]
      have : (Value.int .u8 0).cells.size = 1 := rfl
      rw [this]; omega
    · simp only [Array.toList_append, List.nil_append, Nat.zero_add, Nat.mul_one]
      rw [List.take_append_of_le_length (by simp [hbl]), List.take_of_length_le (by simp [hbl])]
  · by_cases hroom : n + m ≤ cap
    · have hfit : n * i0.size + (bv ys).length ≤ cur.size := by rw [hz1, hbl, hcs]; omega
      have hr := run_append_room (P := Tryz.prog) w 36 ty 5 i0 Tryz.underlying36 hi g n cap cur hg a m c (bv ys) (by rw [hz1, hbl, Nat.mul_one]) hnews h1 hroom hfit
      rw [hz1, Nat.mul_one, hbl] at hr
      have hxl : xs.length = n := by simpa using hown.1
      rw [Nat.mul_one] at htake
      have hlen2 : (cur.toList.take n ++ bv ys ++ cur.toList.drop (n + m)).toArray.size = cap * 1 := by
        simp only [List.size_toArray, List.length_append, List.length_take, List.length_drop, Array.length_toList, hbl]; omega
      refine ⟨_, _, hr, ⟨by simp [hxl, hbl], .inr ⟨g, cap, _, rfl, hbg, setRow_heap w g cur _ 5 _ hg, hroom, hcm, hlen2, ?_⟩⟩, ⟨hown.1, .inr ⟨g, cap, _, rfl, hbg, setRow_heap w g cur _ 5 _ hg, hnc, hcm, hlen2, ?_⟩⟩, (⟨rfl, rfl, rfl, by simp, fun k _ hk => setRow_other w g k _ (fun e => hk (by simp [Value.ownBlock, e]))⟩), Or.inl rfl⟩
      · rw [htake, Nat.mul_one]
        rw [List.take_append_of_le_length (by simp [hxl, hbl]), List.take_of_length_le (by simp [hxl, hbl])]
      · rw [htake, Nat.mul_one, List.append_assoc]
        rw [List.take_append_of_le_length (by omega), List.take_of_length_le (by omega)]
    · have holds : ∀ j u, xs[j]? = some u → w.cell? ((⟨g, 0, none⟩ : Addr).add j) = some u := hown.cells (g := g) rfl
      obtain ⟨v', w', hr, h2, h3⟩ := run_append_arg_grows (P := Tryz.prog) w 36 ty 5 i0 (.int .u8 0) 1 1 Tryz.underlying36 hi hz0 hz1 hz2 rfl (by decide) ⟨g, 0, none⟩ n cap xs hown.1 holds a m c (bv ys) (by simp [hbl]) hnews (by omega) (by unfold maxLen; omega) (by omega)
      refine ⟨v', w', hr, ownsRow_le h2 hbase, hown.kept h3 (Or.inr (by simp [Value.ownBlock])), grown_none h3 _, Or.inr (fun k e => (h2.lt k e).1)⟩

/-- The same as a step of the walk. -/
theorem wpList_append_keep {w : World} {ops : Array Oper} {rest : List Oper} {o : Oper} {a : Act} {Q : Exit → Act → World → Prop} (hgd : o.guard = none) (s x : Operand)
    (ho : o.op = .call { callee := .builtin .append, args := #[s, x], argTypes := #[36, 36] }) (base : Nat) (v : Value) (n : Nat) (xs : List Value) (hs : a.eval s = v) (hown : w.ownsRow base 5 1 v n xs)
    (ad : Addr) (m c : Nat) (ys : List Nat) (hx : a.eval x = .slice (some ad) m c) (hl : ys.length = m) (h0 : 0 < m) (hat : At w (some ad) ys) (hbytes : n + m ≤ 140737488355328) (hbase : base ≤ w.heap.size)
    (h : ∀ v' w', w'.ownsRow base 5 1 v' (n + m) (xs ++ bv ys) → w'.ownsRow base 5 1 v n xs → w.grownBy w' v.ownBlock → (v'.ownBlock = v.ownBlock ∨ ∀ k, v'.ownBlock = some k → w.heap.size ≤ k) → wpList Tryz.prog ops Q rest (a.put o.dst v') w') : wpList Tryz.prog ops Q (o :: rest) a w := by
  refine wpList_plain hgd fun K hK => ?_
  obtain ⟨v', w', hr, h1, h2, h3, h4⟩ := run_append_keep w o.type base v n xs hown ad m c ys hl h0 hat hbytes hbase
  unfold Oper.wp execOp
  simp only [ho, resolve, invoke, builtin, Sem.run_bind, Sem.run_pure, Result.andThen_ok, List.map_toArray, List.map_cons, List.map_nil, hs, hx, hr]
  exact hK _ _ (h v' w' h1 h2 h3 h4)

/-- Two rows of unlike kinds of cells lie apart. -/
theorem own_ne {w : World} {B B' n n' s s' : Nat} {e e' : TypeId} {v v' : Value} {xs xs' : List Value} (h : w.ownsRow B e s v n xs) (h' : w.ownsRow B' e' s' v' n' xs') (he : e ≠ e') : v.ownBlock = none ∨ v.ownBlock ≠ v'.ownBlock := by
  rcases h.2 with ⟨rfl, _⟩ | ⟨g, cap, cur, rfl, _, hg, _⟩
  · exact Or.inl rfl
  · right
    rcases h'.2 with ⟨rfl, _⟩ | ⟨g', cap', cur', rfl, _, hg', _⟩
    · simp [Value.ownBlock]
    · simp only [Value.ownBlock, ne_eq, Option.some.injEq]
      rintro rfl
      rw [hg] at hg'
      simp at hg'
      exact he hg'.2

/-- The lists ls, each a row of its own: K values v k of n k bytes, that hold f k. -/
structure Fl (w : World) (B K : Nat) (lsv : Value) (v : Nat → Value) (n : Nat → Nat) (f : Nat → List Value) : Prop where
  ls : w.ownsRow B 36 1 lsv K ((List.range K).map v)
  row : ∀ k, k < K → w.ownsRow B 5 1 (v k) (n k) (f k)
  apart : ∀ i k, i < K → k < K → i ≠ k → (v i).ownBlock = none ∨ (v i).ownBlock ≠ (v k).ownBlock
theorem Fl.kept {w w' : World} {B K : Nat} {lsv : Value} {v : Nat → Value} {n : Nat → Nat} {f : Nat → List Value} (h : Fl w B K lsv v n f) (hg : w.grownBy w' none) : Fl w' B K lsv v n f :=
  ⟨h.ls.kept hg (by cases lsv.ownBlock <;> simp), fun k hk => (h.row k hk).kept hg (by cases (v k).ownBlock <;> simp), h.apart⟩
/-- One row is written; the others stay. -/
theorem Fl.wrote {w w' : World} {B K : Nat} {lsv : Value} {v : Nat → Value} {n : Nat → Nat} {f f' : Nat → List Value} (h : Fl w B K lsv v n f) (j : Nat) (hj : j < K) (hg : w.grownBy w' (v j).ownBlock) (hrow : w'.ownsRow B 5 1 (v j) (n j) (f' j))
    (hf : ∀ k, k ≠ j → f' k = f k) : Fl w' B K lsv v n f' := by
  refine ⟨h.ls.kept hg (own_ne h.ls (h.row j hj) (by decide)), fun k hk => ?_, h.apart⟩
  by_cases e : k = j
  · subst e; exact hrow
  · rw [hf k e]
    exact (h.row k hk).kept hg (h.apart k j hk hj e)
end Go.Proofs.YtahjckcfcdnlmaaGreat.Ap
/- Rows of bytes that lie apart, and the lists that were grown out of them: what keeps both. Plain lemmas for flatBytes. -/
namespace Go.Proofs.YtahjckcfcdnlmaaGreat.Ap
open Go.RowKit

theorem Tryz.info36 : (Tryz.prog.info? 36).map (fun i => (i.zero, i.size, i.bytes)) = some (some (.slice none 0 0), 1, 24) := by kernel_rfl
theorem made_lists (n : Nat) : madeCells #[.slice none 0 0] n = (List.replicate n (Value.slice none 0 0)).toArray := by
  apply Array.ext'
  rw [toList_madeCells_one]
theorem make_lists (K : Nat) (h : K ≤ 400000) (w : World) : (Instr.makeSlice 43 (.int .i64 (K : Int)) (.int .i64 (K : Int))).run Tryz.prog w = .ok (.slice (some ⟨w.heap.size, 0, none⟩) K K) (w.alloc (.cells (List.replicate K (Value.slice none 0 0)).toArray 36)) := by
  rw [run_make_row' (P := Tryz.prog) 43 36 (.slice none 0 0) 24 Tryz.underlying43 Tryz.info36 rfl .i64 .i64 K (by omega) (by omega) w, made_lists]

/-- What a longer row over the same place leaves of a shorter one. -/
theorem own_shorter {w w' : World} {B n N : Nat} {v g : Value} {xs ys : List Value} (hv : w.ownsRow B 5 1 v n xs) (hg : w.ownsRow B 5 1 g N ys) (hb : g.ownBlock = v.ownBlock) (h' : w'.ownsRow B 5 1 g N ys) (hn : n ≤ N) (hx : ys.take n = xs) : w'.ownsRow B 5 1 v n xs := by
  refine ⟨hv.1, ?_⟩
  rcases hv.2 with ⟨rfl, h0⟩ | ⟨b, cap, cur, rfl, hB, hc, hnc, hcm, hcs, htk⟩
  · exact Or.inl ⟨rfl, h0⟩
  · rcases hg.2 with ⟨rfl, _⟩ | ⟨b2, cap2, cur2, rfl, _, hc2, _, _, hcs2, _⟩
    · simp [Value.ownBlock] at hb
    · simp only [Value.ownBlock, Option.some.injEq] at hb
      subst hb
      rw [hc] at hc2
      simp at hc2
      subst hc2
      have hcap : cap2 = cap := by omega
      subst hcap
      rcases h'.2 with ⟨h1, _⟩ | ⟨b3, cap3, cur3, h1, _, hc3, _, _, hcs3, htk3⟩
      · cases h1
      · cases h1
        refine Or.inr ⟨b2, cap2, cur3, rfl, hB, hc3, hnc, hcm, hcs3, ?_⟩
        rw [← hx, ← htk3, List.take_take, Nat.mul_one, Nat.mul_one]
        congr 1
        omega

/-- What was grown out of the first j lists: u k of n k + 64 bytes, that hold h k. -/
structure Gl (w : World) (B K : Nat) (gsv lsv : Value) (v u : Nat → Value) (n : Nat → Nat) (j : Nat) (h : Nat → List Value) : Prop where
  gs : w.ownsRow B 36 1 gsv K ((List.range K).map u)
  ne : gsv.ownBlock ≠ lsv.ownBlock
  row : ∀ k, k < j → w.ownsRow B 5 1 (u k) (n k + 64) (h k)
  uv : ∀ i k, i < j → k < K → i ≠ k → (u i).ownBlock = none ∨ (u i).ownBlock ≠ (v k).ownBlock
  uu : ∀ i k, i < j → k < j → i ≠ k → (u i).ownBlock = none ∨ (u i).ownBlock ≠ (u k).ownBlock
theorem Gl.kept {w w' : World} {B K : Nat} {gsv lsv : Value} {v u : Nat → Value} {n : Nat → Nat} {j : Nat} {h : Nat → List Value} (hh : Gl w B K gsv lsv v u n j h) (hg : w.grownBy w' none) : Gl w' B K gsv lsv v u n j h :=
  ⟨hh.gs.kept hg (by cases gsv.ownBlock <;> simp), hh.ne, fun k hk => (hh.row k hk).kept hg (by cases (u k).ownBlock <;> simp), hh.uv, hh.uu⟩

/-- A row that is being grown out of list j: it lies where list j lies, or in a place that is newer than all others. -/
def Out (S : Nat) (g vj : Value) : Prop := g.ownBlock = vj.ownBlock ∨ ∀ k, g.ownBlock = some k → S ≤ k
theorem Out.ne {w : World} {S B n : Nat} {g vj x : Value} {e : TypeId} {xs : List Value} (h : Out S g vj) (hx : w.ownsRow B e 1 x n xs) (hS : w.heap.size ≤ S) (ha : x.ownBlock = none ∨ x.ownBlock ≠ vj.ownBlock) : x.ownBlock = none ∨ x.ownBlock ≠ g.ownBlock := by
  rcases h with h | h
  · rw [h]; exact ha
  · cases hb : x.ownBlock with
    | none => exact Or.inl rfl
    | some k =>
      right
      intro e
      have := h k e.symm
      have := (hx.lt k hb).2
      omega

/-- One step of growing: the lists and what was grown before stay. -/
theorem grow_step {w w' wS : World} {B K S N : Nat} {gsv lsv g g' : Value} {v u : Nat → Value} {n : Nat → Nat} {f h : Nat → List Value} {j : Nat} {ys : List Value} (hF : Fl w B K lsv v n f) (hG : Gl w B K gsv lsv v u n j h) (hj : j < K)
    (hFS : Fl wS B K lsv v n f) (hGS : Gl wS B K gsv lsv v u n j h) (hS : wS.heap.size ≤ S) (hSw : S ≤ w.heap.size) (hg : w.ownsRow B 5 1 g N ys) (ho : Out S g (v j)) (hN : n j ≤ N) (hys : ys.take (n j) = f j)
    (hk : w'.ownsRow B 5 1 g N ys) (hgr : w.grownBy w' g.ownBlock) (hnew : g'.ownBlock = g.ownBlock ∨ ∀ k, g'.ownBlock = some k → w.heap.size ≤ k) :
    Fl w' B K lsv v n f ∧ Gl w' B K gsv lsv v u n j h ∧ Out S g' (v j) := by
  refine ⟨⟨hF.ls.kept hgr (own_ne hF.ls hg (by decide)), fun k hk' => ?_, hF.apart⟩, ⟨hG.gs.kept hgr (own_ne hG.gs hg (by decide)), hG.ne, fun k hk' => ?_, hG.uv, hG.uu⟩, ?_⟩
  · by_cases e : k = j
    · subst e
      by_cases hb : g.ownBlock = (v k).ownBlock
      · exact own_shorter (hF.row k hk') hg hb hk hN hys
      · refine (hF.row k hk').kept hgr ?_
        exact Or.inr (fun e => hb e.symm)
    · exact (hF.row k hk').kept hgr (ho.ne (hFS.row k hk') hS (hF.apart k j hk' hj e))
  · exact (hG.row k hk').kept hgr (ho.ne (hGS.row k hk') hS (hG.uv k j hk' hj (by omega)))
  · rcases hnew with h1 | h1
    · rcases ho with h2 | h2
      · exact Or.inl (h1.trans h2)
      · exact Or.inr (fun k e => h2 k (h1 ▸ e))
    · exact Or.inr (fun k e => Nat.le_trans hSw (h1 k e))

/-- A write into a place that is newer than all of them. -/
theorem Fl.fresh {w w' wS : World} {B K S : Nat} {lsv : Value} {v : Nat → Value} {n : Nat → Nat} {f : Nat → List Value} (h : Fl w B K lsv v n f) (hS : Fl wS B K lsv v n f) (hs : wS.heap.size ≤ S) (hg : w.grownBy w' (some S)) : Fl w' B K lsv v n f :=
  ⟨h.ls.kept hg (Or.inr (fun e => by have := (hS.ls.lt S e).2; omega)), fun k hk => (h.row k hk).kept hg (Or.inr (fun e => by have := ((hS.row k hk).lt S e).2; omega)), h.apart⟩
theorem Gl.fresh {w w' wS : World} {B K S : Nat} {gsv lsv : Value} {v u : Nat → Value} {n : Nat → Nat} {j : Nat} {h : Nat → List Value} (hh : Gl w B K gsv lsv v u n j h) (hS : Gl wS B K gsv lsv v u n j h) (hs : wS.heap.size ≤ S) (hg : w.grownBy w' (some S)) : Gl w' B K gsv lsv v u n j h :=
  ⟨hh.gs.kept hg (Or.inr (fun e => by have := (hS.gs.lt S e).2; omega)), hh.ne, fun k hk => (hh.row k hk).kept hg (Or.inr (fun e => by have := ((hS.row k hk).lt S e).2; omega)), hh.uv, hh.uu⟩

/-- What was grown is put into its place among the grown. -/
def upd (u : Nat → Value) (j : Nat) (g : Value) (k : Nat) : Value := if k = j then g else u k
theorem map_upd (u : Nat → Value) (j K : Nat) (g : Value) (hj : j < K) : ((List.range K).map u).set j g = (List.range K).map (upd u j g) := by
  apply List.ext_getElem?
  intro k
  by_cases e : k = j
  · subst e
    rw [List.getElem?_set_self (by simpa using hj)]
    simp [hj, upd]
  · rw [List.getElem?_set_ne (fun h => e h.symm), List.getElem?_map, List.getElem?_map]
    by_cases hk : k < K
    · simp [hk, upd, e]
    · simp [hk]
theorem Gl.put {w wS : World} {B K S G cap : Nat} {lsv g : Value} {v u : Nat → Value} {n : Nat → Nat} {f h : Nat → List Value} {j : Nat} (hF : Fl w B K lsv v n f) (hG : Gl w B K (.slice (some ⟨G, 0, none⟩) K cap) lsv v u n j h) (hj : j < K)
    (hFS : Fl wS B K lsv v n f) (hGS : Gl wS B K (.slice (some ⟨G, 0, none⟩) K cap) lsv v u n j h) (hS : wS.heap.size ≤ S) (ho : Out S g (v j)) (hg : w.ownsRow B 5 1 g (n j + 64) (h j)) :
    Fl (w.setCell ⟨G, j, none⟩ g) B K lsv v n f ∧ Gl (w.setCell ⟨G, j, none⟩ g) B K (.slice (some ⟨G, 0, none⟩) K cap) lsv v (upd u j g) n (j + 1) h ∧ w.grownBy (w.setCell ⟨G, j, none⟩ g) (some G) := by
  have hst := hG.gs.stored j g
  have hgG : (Value.slice (some ⟨G, 0, none⟩) K cap).ownBlock = some G := rfl
  refine ⟨⟨hF.ls.kept hst.2 (Or.inr (fun e => hG.ne (by rw [hgG]; exact e.symm))), fun k hk => (hF.row k hk).kept hst.2 (by have := own_ne (hF.row k hk) hG.gs (by decide); rwa [hgG] at this), hF.apart⟩, ⟨?_, hG.ne, fun k hk => ?_, fun i k hi hk hik => ?_, fun i k hi hk hik => ?_⟩, hst.2⟩
  · rw [← map_upd u j K g hj]; exact hst.1
  · unfold upd
    split
    · rename_i e; subst e
      exact hg.kept hst.2 (by have := own_ne hg hG.gs (by decide); rwa [hgG] at this)
    · exact (hG.row k (by omega)).kept hst.2 (by have := own_ne (hG.row k (by omega)) hG.gs (by decide); rwa [hgG] at this)
  · unfold upd
    split
    · rename_i e; subst e
      rcases ho with h1 | h1
      · rw [h1]; exact hF.apart i k hj hk hik
      · cases hb : g.ownBlock with
        | none => exact Or.inl rfl
        | some b =>
          right
          intro e
          have h2 := h1 b hb
          have h3 := ((hFS.row k hk).lt b e.symm).2
          omega
    · exact hG.uv i k (by omega) hk hik
  · unfold upd
    by_cases e1 : i = j
    · subst e1
      rw [if_pos rfl, if_neg (fun e => hik e.symm)]
      have h4 := ho.ne (hGS.row k (by omega)) hS (hG.uv k i (by omega) hj (by omega))
      rcases h4 with h5 | h5
      · cases hb : g.ownBlock with
        | none => exact Or.inl rfl
        | some b => exact Or.inr (by rw [h5]; simp)
      · exact Or.inr (fun e => h5 e.symm)
    · rw [if_neg e1]
      by_cases e2 : k = j
      · subst e2
        rw [if_pos rfl]
        exact ho.ne (hGS.row i (by omega)) hS (hG.uv i k (by omega) hj hik)
      · rw [if_neg e2]
        exact hG.uu i k (by omega) (by omega) hik
end Go.Proofs.YtahjckcfcdnlmaaGreat.Ap
