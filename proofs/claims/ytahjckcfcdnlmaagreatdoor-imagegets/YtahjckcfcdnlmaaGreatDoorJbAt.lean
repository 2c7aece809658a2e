/- Texts joined: Im7, LaI, GePs, GeRf, Im9. -/
import Derived.Test.YtahjckcfcdnlmaaGreatDoorJbAs
import Derived.Test.YtahjckcfcdnlmaaGreatDoorJbAn
import Derived.Test.YtahjckcfcdnlmaaGreatDoorJbAa
import Derived.Deep.CutRange
import Derived.Deep.DeepCutAuto
/- Bookings that are told: copied, made a book of. -/
namespace Go.Proofs.YtahjckcfcdnlmaaGreatDoor
open Go.RowKit
attribute [local go_sem ↓] Go.wp_at_zero Go.wp_at_succ
attribute [local go_sem] Oper.semAt_some
def bwc (x : Bw) : List Value := [.int .u32 (x.i : Int), .int .i64 x.s, .int .i64 x.u]
def bwcs (X : List Bw) : List Value := X.flatMap bwc
theorem bwcs_length (X : List Bw) : (bwcs X).length = X.length * 3 := by
  unfold bwcs
  induction X with
  | nil => rfl
  | cons x r ih => rw [List.flatMap_cons, List.length_append, ih, List.length_cons]; simp [bwc]; omega
theorem bwcs_get {X : List Bw} {i : Nat} (h : i < X.length) : (bwcs X)[i * 3]? = some (.int .u32 ((rdw X i).i : Int)) ∧ (bwcs X)[i * 3 + 1]? = some (.int .i64 (rdw X i).s) ∧ (bwcs X)[i * 3 + 2]? = some (.int .i64 (rdw X i).u) := by
  induction X generalizing i with
  | nil => simp at h
  | cons y r ih =>
    have e : bwcs (y :: r) = .int .u32 (y.i : Int) :: .int .i64 y.s :: .int .i64 y.u :: bwcs r := by simp [bwcs, bwc]
    cases i with
    | zero => rw [e]; exact ⟨rfl, rfl, rfl⟩
    | succ i =>
      have := ih (i := i) (by simpa using h)
      have er : rdw (y :: r) (i + 1) = rdw r i := by simp [rdw]
      rw [e, er, show (i + 1) * 3 = i * 3 + 3 by omega]
      exact this
theorem bwcs_one (X : List Bw) : ∀ u ∈ bwcs X, u.oneCell' = true := by
  intro u hu
  simp only [bwcs, List.mem_flatMap] at hu
  obtain ⟨x, _, h⟩ := hu
  simp only [bwc, List.mem_cons, List.not_mem_nil, or_false] at h
  rcases h with rfl | rfl | rfl <;> rfl
/-- Bookings that lie from an address on. -/
def BwC (w : World) (ao : Option Addr) (X : List Bw) : Prop := ∀ j u, (bwcs X)[j]? = some u → ∃ a, ao = some a ∧ w.cell? (a.add j) = some u
theorem BwC.then {w w' : World} {ao : Option Addr} {X : List Bw} (h : BwC w ao X) (g : w.grownBy w' none) : BwC w' ao X := by
  intro j u hj
  obtain ⟨a, e, h1⟩ := h j u hj
  exact ⟨a, e, g.cell h1 (by simp)⟩
theorem BwA.own {w : World} {b : Nat} {v : Value} {X : List Bw} (h : w.ownsRow b 45 3 v X.length (bwcs X)) : BwA w v X := by
  rcases h.2 with ⟨rfl, h0⟩ | ⟨g, cap, cur, rfl, hb, hg, h1, h2, h3, h4⟩
  · refine ⟨none, 0, ?_, fun i hi => ?_⟩
    · have : X.length = 0 := h0
      rw [this]
    · omega
  · have hc := h.cells (g := g) rfl
    refine ⟨some ⟨g, 0, none⟩, cap, rfl, fun i hi => ⟨g, rfl, ?_⟩⟩
    obtain ⟨q1, q2, q3⟩ := bwcs_get hi
    have c1 := hc _ _ q1; have c2 := hc _ _ q2; have c3 := hc _ _ q3
    rw [Addr.add_lit, Nat.zero_add] at c1 c2 c3
    exact ⟨c1, c2, c3⟩
theorem BwC.of {w : World} {b : Nat} {v : Value} {X : List Bw} (h : w.ownsRow b 45 3 v X.length (bwcs X)) : ∃ ao cap, v = .slice ao X.length cap ∧ BwC w ao X ∧ (ao = none → X.length = 0 ∧ cap = 0) := by
  rcases h.2 with ⟨rfl, h0⟩ | ⟨g, cap, cur, rfl, hb, hg, h1, h2, h3, h4⟩
  · have : X.length = 0 := h0
    exact ⟨none, 0, by rw [this], fun j u hj => by rw [show X = [] from List.length_eq_zero_iff.1 this] at hj; simp [bwcs] at hj, fun _ => ⟨this, rfl⟩⟩
  · exact ⟨some ⟨g, 0, none⟩, cap, rfl, fun j u hj => ⟨_, rfl, h.cells (g := g) rfl j u hj⟩, fun e => by cases e⟩
set_option maxHeartbeats 4000000 in
theorem copyBw_any {w : World} {ao : Option Addr} {n cap : Nat} {X : List Bw} (hl : X.length = n) (h : BwC w ao X) (hnil : ao = none → n = 0 ∧ cap = 0) (hb : n ≤ 5864062014800) : Calls Tryz.prog 47 #[.slice ao n cap] w fun e w' => ∃ v, e = .returned v ∧ w'.ownsRow w.heap.size 45 3 v n (bwcs X) ∧ w.grownBy w' none := by
  cases ao with
  | none =>
    obtain ⟨rfl, rfl⟩ := hnil rfl
    have hn : X = [] := List.length_eq_zero_iff.1 hl
    subst hn
    clear h hl hnil
    go_enter Tryz.func47, Tryz.ntmps47
    go_wp2
    go_ret
    exact ⟨_, rfl, ⟨rfl, .inl ⟨rfl, rfl⟩⟩, grown_refl _ _⟩
  | some a =>
    have HC : Hid (∀ j u, (bwcs X)[j]? = some u → w.cell? (a.add j) = some u) := fun j u hj => by
      obtain ⟨a', e, h1⟩ := h j u hj
      cases e
      exact h1
    have HN := hide (And.intro hl (bwcs_length X))
    clear h hl hnil
    obtain ⟨i0, hi, hz0, hz1, hz2⟩ := info_parts Tryz.info45
    have HI := hide (And.intro hi (And.intro hz0 (And.intro hz1 hz2)))
    clear hi hz0 hz1 hz2
    go_enter Tryz.func47, Tryz.ntmps47
    go_wp2_with (at_builtin; refine wpList_append_own _ rfl (.tmp 4) (.tmp 5) 31 rfl w.heap.size 45 i0 (.agg #[.int .u32 0, .int .i64 0, .int .i64 0]) 3 _ Tryz.underlying31 HI.out.1 HI.out.2.1 HI.out.2.2.1 HI.out.2.2.2 rfl (by decide) (.slice none 0 0) 0 [] rfl (World.ownsRow_nil _ _ _ _) a n cap (bwcs X) rfl (by rw [HN.out.2, HN.out.1]) HC.out (bwcs_one X) (by unfold maxLen; omega) (by omega) (Nat.le_refl _) ?_)
    intro v' w' hown hgr _
    obtain ⟨ao', cap', rfl, -⟩ := Ix.own_form hown
    have H := hide (And.intro hown hgr)
    clear hown hgr
    go_wp2
    go_ret
    exact ⟨_, rfl, by simpa using H.out.1, grown_then (grown_refl w none) H.out.2 (fun k e => by cases e)⟩
/-- What is told of a book, as a value. -/
def askV (a b c : Int) (n : Nat) (t : Int) (ao : Option Addr) (len cap : Nat) : Value := .agg #[.int .i64 a, .int .i64 b, .int .i64 c, .int .u32 (n : Int), .int .i64 t, .slice ao len cap]
theorem box6 {w : World} {g : Nat} {t : TypeId} {x0 x1 x2 x3 x4 x5 : Value} (h : w.heap[g]? = some (.cells [x0, x1, x2, x3, x4, x5].toArray t (0, 0))) : w.cell? ⟨g, 0, none⟩ = some x0 ∧ w.cell? ⟨g, 1, none⟩ = some x1 ∧ w.cell? ⟨g, 2, none⟩ = some x2 ∧ w.cell? ⟨g, 3, none⟩ = some x3 ∧ w.cell? ⟨g, 4, none⟩ = some x4 ∧ w.cell? ⟨g, 5, none⟩ = some x5 ∧ (∀ j, w.frozen? ⟨g, j, none⟩ = false) :=
  ⟨by rw [cell_row h]; rfl, by rw [cell_row h]; rfl, by rw [cell_row h]; rfl, by rw [cell_row h]; rfl, by rw [cell_row h]; rfl, by rw [cell_row h]; rfl, fun j => free_row h j⟩
def ask6 (W : World) (g : Nat) (x0 x1 x2 x3 x4 x5 : Value) : Prop := W.cell? ⟨g, 0, none⟩ = some x0 ∧ W.cell? ⟨g, 1, none⟩ = some x1 ∧ W.cell? ⟨g, 2, none⟩ = some x2 ∧ W.cell? ⟨g, 3, none⟩ = some x3 ∧ W.cell? ⟨g, 4, none⟩ = some x4 ∧ W.cell? ⟨g, 5, none⟩ = some x5
theorem ask6.then {W W' : World} {g : Nat} {x0 x1 x2 x3 x4 x5 : Value} (h : ask6 W g x0 x1 x2 x3 x4 x5) (k : W.grownBy W' none) : ask6 W' g x0 x1 x2 x3 x4 x5 :=
  ⟨k.cell h.1 (by simp), k.cell h.2.1 (by simp), k.cell h.2.2.1 (by simp), k.cell h.2.2.2.1 (by simp), k.cell h.2.2.2.2.1 (by simp), k.cell h.2.2.2.2.2 (by simp)⟩
theorem ask6.new (w : World) (t : TypeId) (x0 x1 x2 x3 x4 x5 : Value) : ask6 (w.alloc (.cells [x0, x1, x2, x3, x4, x5].toArray t)) w.heap.size x0 x1 x2 x3 x4 x5 := by
  obtain ⟨q0, q1, q2, q3, q4, q5, -⟩ := box6 (heap_alloc_new w (.cells [x0, x1, x2, x3, x4, x5].toArray t))
  exact ⟨q0, q1, q2, q3, q4, q5⟩
set_option maxRecDepth 20000 in
set_option maxHeartbeats 8000000 in
theorem made_no {w : World} {a b c t : Int} {n : Nat} {ao : Option Addr} {len cap : Nat} {X : List Bw} (hl : X.length = len) (h : BwC w ao X) (hnil : ao = none → len = 0 ∧ cap = 0) (hb : len ≤ 5864062014800) (hn : n < 4294967296) (hR : ¬ Right a b c n t X) : Calls Tryz.prog 17 #[askV a b c n t ao len cap] w fun e w' => e = .returned (.tuple #[.pointer none, .int .i64 (ofE a b c)]) ∧ w.grownBy w' none := by
  have HCp : Hid (∀ W, w.grownBy W none → Calls Tryz.prog 47 #[.slice ao len cap] W fun e w' => ∃ v, e = .returned v ∧ BwA w' v X ∧ W.grownBy w' none) := by
    intro W hW
    refine (copyBw_any hl (h.then hW) hnil hb).mono ?_
    rintro e w' ⟨v, rfl, h1, h2⟩
    exact ⟨v, rfl, BwA.own (by rw [hl]; exact h1), h2⟩
  have HOf : Hid (∀ W v, BwA W v X → 0 < W.heap.size → Calls Tryz.prog 23 #[.agg #[.int .i64 a, .int .i64 b, .int .i64 c], .int .u32 (n : Int), .int .i64 t, v] W fun e w' => e = .returned (.tuple #[.pointer none, .int .i64 (ofE a b c)]) ∧ W.grownBy w' none) := fun W v hv hz => of_no hn hv hz hR
  have hx := heap_alloc_new w (.cells [.int .i64 a, .int .i64 b, .int .i64 c, .int .u32 (n : Int), .int .i64 t, .slice ao len cap].toArray 48)
  have hk0 := ask6.new w 48 (.int .i64 a) (.int .i64 b) (.int .i64 c) (.int .u32 (n : Int)) (.int .i64 t) (.slice ao len cap)
  have HG := hide (grown_alloc w (.cells [.int .i64 a, .int .i64 b, .int .i64 c, .int .u32 (n : Int), .int .i64 t, .slice ao len cap].toArray 48))
  have HK := hide hk0
  have hz0 := row_lt hx
  clear h hl hnil hb hn hR hx hk0
  unfold askV
  generalize ofE a b c = E at *
  go_enter Tryz.func17, Tryz.ntmps17
  go_wp2
  generalize World.alloc w _ = w0 at *
  have hK0 := HK.out.then (grown_drew w0 none)
  unfold ask6 at hK0
  go_region_held3 (fun W => W.cell? ⟨w.heap.size, 0, none⟩ = some (.int .i64 a) ∧ W.cell? ⟨w.heap.size, 1, none⟩ = some (.int .i64 b) ∧ W.cell? ⟨w.heap.size, 2, none⟩ = some (.int .i64 c) ∧ W.cell? ⟨w.heap.size, 3, none⟩ = some (.int .u32 (n : Int)) ∧ W.cell? ⟨w.heap.size, 4, none⟩ = some (.int .i64 t) ∧ W.cell? ⟨w.heap.size, 5, none⟩ = some (.slice ao len cap)) (first | with_reducible assumption | exact hK0)
    ((first
      | (go_at_call 47; refine (HCp.out _ (gn_drew HG.out)).mono ?_; rintro e w1 ⟨v, rfl, hv1, hg1⟩; have HV1 := hide hv1; have HG1 := hide (grown_trans (grown_drew w0 none) hg1); have hK1 := HK.out.then HG1.out; have hz1 : 0 < w1.heap.size := (by have h1 := HG1.out.size; omega); unfold ask6 at hK1; clear hv1 hg1)
      | (go_at_call 23; refine (HOf.out _ _ HV1.out hz1).mono ?_; rintro e w2 ⟨rfl, hg2⟩; have HG2 := hide (grown_trans HG1.out hg2); have hK2 := HK.out.then HG2.out; unfold ask6 at hK2; clear hg2)))
  go_wp2
  go_ret2
  exact ⟨rfl, grown_trans HG.out HG2.out⟩
set_option maxRecDepth 20000 in
set_option maxHeartbeats 8000000 in
theorem made_yes {w : World} {a b c t : Int} {n : Nat} {ao : Option Addr} {len cap : Nat} {X : List Bw} (hl : X.length = len) (h : BwC w ao X) (hnil : ao = none → len = 0 ∧ cap = 0) (hb : len ≤ 5864062014800) (hn : n < 4294967296) (hR : Right a b c n t X) : Calls Tryz.prog 17 #[askV a b c n t ao len cap] w fun e w' => ∃ x p, e = .returned (.tuple #[.pointer (some ⟨x, 0, none⟩), .int .i64 0]) ∧ Lk w w' x ⟨a.toNat, b.toNat, c.toNat, n, t, X.map Bw.bg⟩ 4096 p [] := by
  have HCp : Hid (∀ W, w.grownBy W none → Calls Tryz.prog 47 #[.slice ao len cap] W fun e w' => ∃ v, e = .returned v ∧ BwA w' v X ∧ W.grownBy w' none) := by
    intro W hW
    refine (copyBw_any hl (h.then hW) hnil hb).mono ?_
    rintro e w' ⟨v, rfl, h1, h2⟩
    exact ⟨v, rfl, BwA.own (by rw [hl]; exact h1), h2⟩
  have HOf : Hid (∀ W v, w.grownBy W none → BwA W v X → 0 < W.heap.size → Calls Tryz.prog 23 #[.agg #[.int .i64 a, .int .i64 b, .int .i64 c], .int .u32 (n : Int), .int .i64 t, v] W fun e w' => ∃ x p, e = .returned (.tuple #[.pointer (some ⟨x, 0, none⟩), .int .i64 0]) ∧ Lk w w' x ⟨a.toNat, b.toNat, c.toNat, n, t, X.map Bw.bg⟩ 4096 p [] ∧ W.grownBy w' none) := by
    intro W v hW hv hz
    refine (of_yes hn hv hz hR).mono ?_
    rintro e w' ⟨x, p, rfl, h1⟩
    exact ⟨x, p, rfl, h1.wide hW, h1.gr⟩
  have hx := heap_alloc_new w (.cells [.int .i64 a, .int .i64 b, .int .i64 c, .int .u32 (n : Int), .int .i64 t, .slice ao len cap].toArray 48)
  have hk0 := ask6.new w 48 (.int .i64 a) (.int .i64 b) (.int .i64 c) (.int .u32 (n : Int)) (.int .i64 t) (.slice ao len cap)
  have HG := hide (grown_alloc w (.cells [.int .i64 a, .int .i64 b, .int .i64 c, .int .u32 (n : Int), .int .i64 t, .slice ao len cap].toArray 48))
  have HK := hide hk0
  have hz0 := row_lt hx
  clear h hl hnil hb hn hR hx hk0
  unfold askV
  go_enter Tryz.func17, Tryz.ntmps17
  go_wp2
  generalize World.alloc w _ = w0 at *
  have hK0 := HK.out.then (grown_drew w0 none)
  unfold ask6 at hK0
  go_region_held3 (fun W => W.cell? ⟨w.heap.size, 0, none⟩ = some (.int .i64 a) ∧ W.cell? ⟨w.heap.size, 1, none⟩ = some (.int .i64 b) ∧ W.cell? ⟨w.heap.size, 2, none⟩ = some (.int .i64 c) ∧ W.cell? ⟨w.heap.size, 3, none⟩ = some (.int .u32 (n : Int)) ∧ W.cell? ⟨w.heap.size, 4, none⟩ = some (.int .i64 t) ∧ W.cell? ⟨w.heap.size, 5, none⟩ = some (.slice ao len cap)) (first | with_reducible assumption | exact hK0)
    ((first
      | (go_at_call 47; refine (HCp.out _ (gn_drew HG.out)).mono ?_; rintro e w1 ⟨v, rfl, hv1, hg1⟩; have HV1 := hide hv1; have HG1 := hide (grown_trans (grown_drew w0 none) hg1); have hK1 := HK.out.then HG1.out; have hz1 : 0 < w1.heap.size := (by have h1 := HG1.out.size; omega); unfold ask6 at hK1; clear hv1 hg1)
      | (go_at_call 23; refine (HOf.out _ _ (grown_trans HG.out HG1.out) HV1.out hz1).mono ?_; rintro e w2 ⟨x, q, rfl, hk2, hg2⟩; have HK2 := hide hk2; have HG2 := hide (grown_trans HG1.out hg2); have hK2 := HK.out.then HG2.out; unfold ask6 at hK2; clear hg2 hk2)))
  go_wp2
  go_ret2
  exact ⟨_, _, rfl, HK2.out⟩
end Go.Proofs.YtahjckcfcdnlmaaGreatDoor
/- Arguments opened: bytes, a shape, what is told of a book. -/
namespace Go.Proofs.YtahjckcfcdnlmaaGreatDoor
open Go.ChangeShapes Go.WideShapes Go.ChangeAt Go.RowKit Go.Deep
variable {H : Type} {enc : TypeId × Value → H}
theorem ck45 : Tryz.prog.cellsOf 45 = 3 := by kernel_rfl
theorem ck48 : Tryz.prog.cellsOf 48 = 6 := by kernel_rfl
theorem ck23 : Tryz.prog.cellsOf 23 = 3 := by kernel_rfl
theorem ck31 : Tryz.prog.cellsOf 31 = 1 := by kernel_rfl
theorem ck30 : Tryz.prog.cellsOf 30 = 1 := by kernel_rfl
theorem ck5 : Tryz.prog.cellsOf 5 = 1 := by kernel_rfl
theorem ck3 : Tryz.prog.cellsOf 3 = 1 := by kernel_rfl
theorem ck2 : Tryz.prog.cellsOf 2 = 1 := by kernel_rfl
theorem cb45 : Tryz.prog.bytesOf 45 = 20 + 4 := by kernel_rfl
theorem cb5 : Tryz.prog.bytesOf 5 = 1 := by kernel_rfl
theorem lst3 {α : Type} {l : List α} (h : l.length = 3) : ∃ a b c, l = [a, b, c] := by
  match l, h with
  | [a, b, c], _ => exact ⟨a, b, c, rfl⟩
theorem lst4 {α : Type} {l : List α} (h : l.length = 4) : ∃ a b c d, l = [a, b, c, d] := by
  match l, h with
  | [a, b, c, d], _ => exact ⟨a, b, c, d, rfl⟩
theorem lst6 {α : Type} {l : List α} (h : l.length = 6) : ∃ a b c d e f, l = [a, b, c, d, e, f] := by
  match l, h with
  | [a, b, c, d, e, f], _ => exact ⟨a, b, c, d, e, f, rfl⟩
set_option maxRecDepth 20000 in
/-- An argument that is a slice of bytes. -/
theorem open_bytesI {w : World} {base : Nat} {spare : Nat → Bool} {held : Bool} {r : Reach} {b0 : Nat} {v : Value} {d : DataW H} {ps : List MemPlace} (hval : Value.okWide Tryz.prog w r b0 24 v) (hd : DataW.Trod enc Tryz.prog w base spare held 24 v d ps) (hz : ∀ n ∈ d.weights Tryz.prog 24, n ≤ reachBytes) :
    ∃ (ao : Option Addr) (n cap : Nat) (xs : List Int), v = .slice ao n cap ∧ xs.length = n ∧ Oc.At w ao xs ∧ Oc.Byt xs ∧ n ≤ 140737488351232 ∧ (ao = none → n = 0 ∧ cap = 0) ∧ n ≤ cap ∧ cap ≤ maxLen ∧ n ≤ Rows.uptoBulk d := by
  obtain ⟨ao, len0, cap0, rfl⟩ := okWide_slice Tryz.underlying24 hval
  obtain ⟨fuel, hf⟩ := hd
  refine ⟨ao, len0, cap0, ?_⟩
  rcases open_ints Tryz.underlying24 Tryz.underlying5 ck5 hf with ⟨hcs, _⟩ | ⟨a, len, cap, zs, hcs, _, hl, hm, hzz, hx, hcell, hwf⟩
  · simp [Value.cells] at hcs
    obtain ⟨rfl, rfl, rfl⟩ := hcs
    exact ⟨[], rfl, rfl, Oc.At.nil _ _, (fun x hx => by cases hx), by omega, fun _ => ⟨rfl, rfl⟩, by omega, by unfold maxLen; omega, by omega⟩
  · simp [Value.cells] at hcs
    obtain ⟨rfl, rfl, rfl⟩ := hcs
    have hd : d = .slice (lits .u8 (zs.take len0)) (lits .u8 (zs.drop len0)) := congrArg Prod.fst hx
    have h1 := hz ((lits .u8 (zs.take len0) : List (DataW H)).length * 1 + (lits .u8 (zs.drop len0) : List (DataW H)).length * 1) (by
      rw [hd]; simp [DataW.weights, Tryz.underlying24, cb5])
    simp only [lits, List.length_map, List.length_take, List.length_drop, reachBytes] at h1
    have hzl : len0 ≤ zs.length := by rw [hzz]; split <;> omega
    refine ⟨zs.take len0, rfl, by simp; omega, ?_, ?_, by omega, (fun e => by cases e), hl, hm, ?_⟩
    · intro j u hu
      rw [List.getElem?_take] at hu
      split at hu
      · rename_i hj
        have hj2 : j < zs.length := by omega
        rw [List.getElem?_eq_getElem hj2] at hu
        have hc := hcell j hj2
        refine ⟨a, rfl, ?_⟩
        rw [hc]
        simp [List.getD_eq_getElem?_getD, hj2] at hu ⊢
        omega
      · cases hu
    · intro x hx
      have := bounds_u8 (hwf x (List.mem_of_mem_take hx))
      omega
    · have hb : ∀ l : List Int, Rows.uptoBulkAll (lits .u8 l : List (DataW H)) = l.length := by
        intro l
        induction l with
        | nil => rfl
        | cons y l ih =>
          show Rows.uptoBulk (.lit (.int .u8 y)) + Rows.uptoBulkAll (lits .u8 l) = _
          rw [ih]
          simp [Rows.uptoBulk]
          omega
      rw [hd]
      simp only [Rows.uptoBulk, hb, List.length_take, List.length_drop]
      omega
set_option maxRecDepth 20000 in
/-- A shape, by its three cells. -/
theorem open_shapeC {w : World} {base fuel : Nat} {spare : Nat → Bool} {held : Bool} {cs : List Value} {x : DataW H × List MemPlace} (h : DataW.trod enc Tryz.prog w base spare held fuel 23 cs = some x) :
    ∃ a b c : Int, cs = [.int .i64 a, .int .i64 b, .int .i64 c] := by
  obtain ⟨xs, n, _, hx, hl, hsz, hf⟩ := DataW.trod_struct Tryz.underlying23 h
  rw [ck23] at hl
  obtain ⟨v0, v1, v2, rfl⟩ := lst3 hl
  obtain ⟨y0, y1, y2, rfl⟩ := lst3 (show xs.length = 3 from hsz)
  have f0 : DataW.trod enc Tryz.prog w base spare held n 3 [v0] = some y0 := by simpa [ck3] using hf 0 _ rfl
  have f1 : DataW.trod enc Tryz.prog w base spare held n 3 [v1] = some y1 := by simpa [ck3] using hf 1 _ rfl
  have f2 : DataW.trod enc Tryz.prog w base spare held n 3 [v2] = some y2 := by simpa [ck3] using hf 2 _ rfl
  obtain ⟨a, e0, rfl, _⟩ := DataW.trod_int Tryz.underlying3 f0
  obtain ⟨b, e1, rfl, _⟩ := DataW.trod_int Tryz.underlying3 f1
  obtain ⟨c, e2, rfl, _⟩ := DataW.trod_int Tryz.underlying3 f2
  simp only [List.cons.injEq, and_true] at e0 e1 e2
  exact ⟨a, b, c, by rw [e0, e1, e2]⟩
set_option maxRecDepth 20000 in
/-- An argument that is a shape. -/
theorem open_shapeI {w : World} {base : Nat} {spare : Nat → Bool} {held : Bool} {r : Reach} {b0 : Nat} {v : Value} {d : DataW H} {ps : List MemPlace} (hval : Value.okWide Tryz.prog w r b0 23 v) (hd : DataW.Trod enc Tryz.prog w base spare held 23 v d ps) :
    ∃ a b c : Int, v = .agg #[.int .i64 a, .int .i64 b, .int .i64 c] := by
  obtain ⟨cs, rfl, _⟩ := okWide_struct Tryz.underlying23 hval
  obtain ⟨fuel, h⟩ := hd
  obtain ⟨a, b, c, e⟩ := open_shapeC (cs := cs.toList) h
  refine ⟨a, b, c, ?_⟩
  congr 1
  cases cs
  simpa using e
set_option maxRecDepth 20000 in
theorem open_bk {w : World} {base n : Nat} {spare : Nat → Bool} {held : Bool} {a : Addr} {cs : List Value} {x : DataW H × List MemPlace} (hc : w.cells? base a 3 = some cs) (h : DataW.trod enc Tryz.prog w base spare held n 45 cs = some x) :
    ∃ r : Bw, a = ⟨a.block, a.off, none⟩ ∧ w.cell? ⟨a.block, a.off, none⟩ = some (.int .u32 (r.i : Int)) ∧ w.cell? ⟨a.block, a.off + 1, none⟩ = some (.int .i64 r.s) ∧ w.cell? ⟨a.block, a.off + 2, none⟩ = some (.int .i64 r.u) := by
  obtain ⟨_, hlen, hcell⟩ := World.cells?_some hc
  obtain ⟨xs, n, _, rfl, hl, hsz, hf⟩ := DataW.trod_struct Tryz.underlying45 h
  obtain ⟨v0, v1, v2, rfl⟩ := lst3 hlen
  obtain ⟨y0, y1, y2, rfl⟩ := lst3 (show xs.length = 3 from hsz)
  clear hl hsz
  have f0 : DataW.trod enc Tryz.prog w base spare held n 30 [v0] = some y0 := by simpa [ck30] using hf 0 _ rfl
  have f1 : DataW.trod enc Tryz.prog w base spare held n 3 [v1] = some y1 := by simpa [ck3] using hf 1 _ rfl
  have f2 : DataW.trod enc Tryz.prog w base spare held n 2 [v2] = some y2 := by simpa [ck2] using hf 2 _ rfl
  obtain ⟨b0, e0, rfl, wa⟩ := DataW.trod_int Tryz.underlying30 f0
  obtain ⟨b1, e1, rfl, wb⟩ := DataW.trod_int Tryz.underlying3 f1
  obtain ⟨b2, e2, rfl, wc⟩ := DataW.trod_int Tryz.underlying2 f2
  simp only [List.cons.injEq, and_true] at e0 e1 e2
  subst e0 e1 e2
  have ba := bounds_u32 wa
  have g0 := hcell 0 (by omega)
  have ha : a = ⟨a.block, a.off, none⟩ := by
    have h1 : w.cell? a = some (.int .u32 b0) := by simpa [Addr.add] using g0
    have h2 : a.spot = none := by
      unfold World.cell? at h1
      split at h1
      · split at h1
        · cases h1
        · rename_i hs; simpa using hs
      · cases h1
    cases a; simp_all
  rw [ha] at hcell
  refine ⟨⟨b0.toNat, b1, b2⟩, ha, ?_, ?_, ?_⟩
  · have := hcell 0 (by omega)
    simp only
    rw [Int.toNat_of_nonneg (by omega)]
    simpa [Addr.add_lit] using this
  · simpa [Addr.add_lit] using hcell 1 (by omega)
  · simpa [Addr.add_lit] using hcell 2 (by omega)
theorem bwcs_snoc (X : List Bw) (x : Bw) : bwcs (X ++ [x]) = bwcs X ++ bwc x := by simp [bwcs]
theorem open_bksB {w : World} {base len n : Nat} {spare : Nat → Bool} {held : Bool} {a : Addr} {D : Nat → DataW H} {Pl : Nat → List MemPlace}
    (h : ∀ i, i < len → ∃ cs', w.cells? base (a.add (i * 3)) 3 = some cs' ∧ DataW.trod enc Tryz.prog w base spare held n 45 cs' = some (D i, Pl i)) :
    ∃ X : List Bw, X.length = len ∧ BwC w (some a) X := by
  have hex : ∀ i, i < len → ∃ r : Bw, ∀ j u, (bwc r)[j]? = some u → w.cell? (a.add (i * 3 + j)) = some u := by
    intro i hi
    obtain ⟨cs', hc, ht⟩ := h i hi
    obtain ⟨o, _, h1, h2, h3⟩ := open_bk hc ht
    have ha : a = ⟨a.block, a.off, none⟩ := by
      obtain ⟨cs0, hc0, ht0⟩ := h 0 (by omega)
      obtain ⟨_, he, _⟩ := open_bk hc0 ht0
      simpa [Addr.add] using he
    have e1 : (a.add (i * 3)).block = a.block := by unfold Addr.add; split <;> rfl
    have e2 : (a.add (i * 3)).off = a.off + i * 3 := by rw [ha, Addr.add_lit]
    rw [e1, e2] at h1 h2 h3
    refine ⟨o, fun j u hj => ?_⟩
    rw [ha, Addr.add_lit]
    have hj3 : j < 3 := (List.getElem?_eq_some_iff.1 hj).1
    have : j = 0 ∨ j = 1 ∨ j = 2 := by omega
    rcases this with rfl | rfl | rfl
    · simp [bwc] at hj; rw [← hj]; exact h1
    · simp [bwc] at hj; rw [← hj, ← Nat.add_assoc]; exact h2
    · simp [bwc] at hj; rw [← hj, ← Nat.add_assoc]; exact h3
  clear h
  induction len with
  | zero => exact ⟨[], rfl, fun j o h => by simp [bwcs] at h⟩
  | succ k ih =>
    obtain ⟨X, h1, h2⟩ := ih (fun i hi => hex i (by omega))
    obtain ⟨o, g1⟩ := hex k (by omega)
    refine ⟨X ++ [o], by simp [h1], ?_⟩
    intro j u hj
    rw [bwcs_snoc] at hj
    have hbl := bwcs_length X
    by_cases hjk : j < (bwcs X).length
    · rw [List.getElem?_append_left hjk] at hj; exact h2 j u hj
    · rw [List.getElem?_append_right (by omega)] at hj
      have := g1 _ u hj
      refine ⟨a, rfl, ?_⟩
      rw [show k * 3 + (j - (bwcs X).length) = j by rw [hbl, h1]; omega] at this
      exact this
set_option maxRecDepth 20000 in
theorem open_bks {w : World} {base fuel : Nat} {spare : Nat → Bool} {held : Bool} {cs : List Value} {x : DataW H × List MemPlace} (h : DataW.trod enc Tryz.prog w base spare held fuel 31 cs = some x) (hz : ∀ n ∈ x.1.weights Tryz.prog 31, n ≤ reachBytes) :
    ∃ (ao : Option Addr) (len cap : Nat) (X : List Bw), cs = [.slice ao len cap] ∧ X.length = len ∧ BwC w ao X ∧ (ao = none → len = 0 ∧ cap = 0) ∧ len ≤ 5864062014800 := by
  rcases open_slice Tryz.underlying31 h with ⟨hcs, _⟩ | ⟨a, len, cap, m, n, D, Pl, hcs, _, hl, hm, hmm, hx, hel⟩
  · exact ⟨none, 0, 0, [], hcs, rfl, (fun j o h => by simp [bwcs] at h), fun _ => ⟨rfl, rfl⟩, by omega⟩
  · have hlm : len ≤ m := by rw [hmm]; split <;> omega
    rw [ck45] at hel
    obtain ⟨X, h1, h2⟩ := open_bksB (len := len) (fun i hi => hel i (by omega))
    have h3 := hz ((((List.range len).map D).length + ((List.range (m - len)).map fun j => D (len + j)).length) * (20 + 4)) (by
      rw [hx]
      simp only [DataW.weights, Tryz.underlying31, cb45]
      exact List.mem_cons_self)
    simp only [List.length_map, List.length_range, reachBytes] at h3
    exact ⟨some a, len, cap, X, hcs, h1, h2, (fun e => by cases e), by omega⟩
set_option maxRecDepth 20000 in
/-- An argument that tells of a book. -/
theorem open_askI {w : World} {base : Nat} {spare : Nat → Bool} {held : Bool} {r : Reach} {b0 : Nat} {v : Value} {d : DataW H} {ps : List MemPlace} (hval : Value.okWide Tryz.prog w r b0 48 v) (hd : DataW.Trod enc Tryz.prog w base spare held 48 v d ps) (hz : ∀ n ∈ d.weights Tryz.prog 48, n ≤ reachBytes) :
    ∃ (a b c : Int) (n : Nat) (t : Int) (ao : Option Addr) (len cap : Nat) (X : List Bw), v = askV a b c n t ao len cap ∧ X.length = len ∧ BwC w ao X ∧ (ao = none → len = 0 ∧ cap = 0) ∧ len ≤ 5864062014800 ∧ n < 4294967296 := by
  obtain ⟨cs, rfl, _⟩ := okWide_struct Tryz.underlying48 hval
  obtain ⟨fuel, h⟩ := hd
  have h : DataW.trod enc Tryz.prog w base spare held fuel 48 cs.toList = some (d, ps) := h
  obtain ⟨xs, n, _, hx, hl, hsz, hf⟩ := DataW.trod_struct Tryz.underlying48 h
  rw [ck48] at hl
  obtain ⟨v0, v1, v2, v3, v4, v5, hc⟩ := lst6 hl
  obtain ⟨y0, y1, y2, y3, rfl⟩ := lst4 (show xs.length = 4 from hsz)
  rw [hc] at hf
  have f0 : DataW.trod enc Tryz.prog w base spare held n 23 [v0, v1, v2] = some y0 := by simpa [ck23] using hf 0 _ rfl
  have f1 : DataW.trod enc Tryz.prog w base spare held n 30 [v3] = some y1 := by simpa [ck23, ck30] using hf 1 _ rfl
  have f2 : DataW.trod enc Tryz.prog w base spare held n 2 [v4] = some y2 := by simpa [ck23, ck30, ck2] using hf 2 _ rfl
  have f3 : DataW.trod enc Tryz.prog w base spare held n 31 [v5] = some y3 := by simpa [ck23, ck30, ck2, ck31] using hf 3 _ rfl
  obtain ⟨a, b, c, e0⟩ := open_shapeC f0
  obtain ⟨n1, e1, rfl, wn⟩ := DataW.trod_int Tryz.underlying30 f1
  obtain ⟨t, e2, rfl, wt⟩ := DataW.trod_int Tryz.underlying2 f2
  have hd : d = .agg [y0.1, .lit (.int .u32 n1), .lit (.int .i64 t), y3.1] := by
    have := congrArg Prod.fst hx
    simpa using this
  obtain ⟨ao, len, cap, X, e3, h1, h2, h3, h4⟩ := open_bks f3 (fun k hk => hz k (by
    rw [hd]
    simp only [DataW.weights, Tryz.underlying48]
    simp [DataW.weightsEach, DataW.weights, hk]))
  have bn := bounds_u32 wn
  simp only [List.cons.injEq, and_true] at e0 e1 e2 e3
  refine ⟨a, b, c, n1.toNat, t, ao, len, cap, X, ?_, h1, h2, h3, h4, by omega⟩
  unfold askV
  rw [Int.toNat_of_nonneg (by omega)]
  rw [e0.1, e0.2.1, e0.2.2, e1, e2, e3] at hc
  congr 1
  cases cs
  simpa using hc
end Go.Proofs.YtahjckcfcdnlmaaGreatDoor
/- The contracts of Image, Need, Plan. -/
namespace Go.Proofs.YtahjckcfcdnlmaaGreatDoor.Ge
open Go.RowKit
attribute [local go_sem ↓] Go.wp_at_zero Go.wp_at_succ

theorem box_cells {w w2 : World} {u v x : Value} {t : TypeId} (h : (w.alloc (.cells #[u, v, x] t)).grownBy w2 none) :
    w.grownBy w2 none ∧ w2.cell? ⟨w.heap.size, 0, none⟩ = some u ∧ w2.cell? ⟨w.heap.size, 1, none⟩ = some v ∧ w2.cell? ⟨w.heap.size, 2, none⟩ = some x :=
  ⟨grown_box h, cell3 (box_kept h) 0, cell3 (box_kept h) 1, cell3 (box_kept h) 2⟩

set_option maxHeartbeats 1000000 in
theorem image_no (a b c : Int) (h : ¬ Gx.OkS a b c) (w : World) : Calls Tryz.prog 18 #[shV a b c] w fun e w' => e = .returned (.tuple #[.int .i64 0, .int .i64 90]) ∧ w.grownBy w' none := by
  have C := hide (check_no a b c h)
  unfold shV at *
  go_enter Tryz.func18, Tryz.ntmps18
  go_wp2_with fail
  refine (C.out _).mono ?_
  rintro e w2 ⟨rfl, hg⟩
  have G := hide (grown_box hg)
  clear hg
  go_wp2
  go_ret2
  exact ⟨rfl, G.out⟩

set_option maxHeartbeats 1000000 in
theorem image_ok (a b c : Int) (h : Gx.OkS a b c) (w : World) : Calls Tryz.prog 18 #[shV a b c] w fun e w' => e = .returned (.tuple #[.int .i64 (Gx.img a b), .int .i64 0]) ∧ w.grownBy w' none := by
  have C := hide (check_ok a b c h)
  have D := hide (imageOf_any a b c h)
  generalize Gx.img a b = n at *
  unfold shV at *
  go_enter Tryz.func18, Tryz.ntmps18
  go_wp2_with fail
  refine (C.out _).mono ?_
  rintro e w2 ⟨rfl, hg⟩
  obtain ⟨hG, c0, c1, c2⟩ := box_cells hg
  have G := hide hG
  clear hg hG
  go_wp2_with fail
  refine (D.out _).mono ?_
  rintro e w3 ⟨rfl, hg⟩
  have G3 := hide (grown_trans G.out hg)
  clear hg
  go_wp2
  go_ret2
  exact ⟨rfl, G3.out⟩

end Go.Proofs.YtahjckcfcdnlmaaGreatDoor.Ge
/- The contracts of the document's functions: Check, Size, Image, hold. -/
namespace Go.Proofs.YtahjckcfcdnlmaaGreatDoor.Ge
open Go.RowKit
attribute [local go_sem ↓] Go.wp_at_zero Go.wp_at_succ

set_option maxHeartbeats 1000000 in
theorem rcheck_ok (a b c : Int) (h : Gx.OkS a b c) (w : World) : Calls Tryz.prog 25 #[shV a b c] w fun e w' => e = .returned (.int .i64 0) ∧ w.grownBy w' none := by
  have hG : ∀ o, w.grownBy (w.alloc o) none := fun o => grown_alloc w o
  obtain ⟨h1, h2, h3, h4, h5, h6⟩ := h
  unfold shV
  go_enter Tryz.func25, Tryz.ntmps25
  go_wp2
  go_ret
  exact ⟨rfl, hG _⟩

set_option maxHeartbeats 2000000 in
theorem rcheck_no (a b c : Int) (h : ¬ Gx.OkS a b c) (w : World) : Calls Tryz.prog 25 #[shV a b c] w fun e w' => e = .returned (.int .i64 90) ∧ w.grownBy w' none := by
  have hG : ∀ o, w.grownBy (w.alloc o) none := fun o => grown_alloc w o
  have hh : a < 1 ∨ (1 ≤ a ∧ 1024 < a) ∨ (1 ≤ a ∧ a ≤ 1024 ∧ b < 1) ∨ (1 ≤ a ∧ a ≤ 1024 ∧ 1 ≤ b ∧ 4096 < b) ∨ (1 ≤ a ∧ a ≤ 1024 ∧ 1 ≤ b ∧ b ≤ 4096 ∧ c < 1) ∨ (1 ≤ a ∧ a ≤ 1024 ∧ 1 ≤ b ∧ b ≤ 4096 ∧ 1 ≤ c ∧ 64 < c) := by
    unfold Gx.OkS at h; omega
  clear h
  unfold shV
  rcases hh with h1 | ⟨h1, h2⟩ | ⟨h1, h2, h3⟩ | ⟨h1, h2, h3, h4⟩ | ⟨h1, h2, h3, h4, h5⟩ | ⟨h1, h2, h3, h4, h5, h6⟩
  all_goals
    go_enter Tryz.func25, Tryz.ntmps25
    go_wp2
    go_ret
    exact ⟨rfl, hG _⟩

/-- The sizes one behind the other. -/
def pw (j : Nat) : Int := 64 * 2 ^ j
theorem pw_list (s : Int) : Gx.OkZ s ↔ ∃ j : Nat, j < 7 ∧ s = pw j := by
  unfold Gx.OkZ pw
  constructor
  · rintro (h | h | h | h | h | h | h)
    · exact ⟨0, by omega, by omega⟩
    · exact ⟨1, by omega, by omega⟩
    · exact ⟨2, by omega, by omega⟩
    · exact ⟨3, by omega, by omega⟩
    · exact ⟨4, by omega, by omega⟩
    · exact ⟨5, by omega, by omega⟩
    · exact ⟨6, by omega, by omega⟩
  · rintro ⟨j, hj, rfl⟩
    have : j = 0 ∨ j = 1 ∨ j = 2 ∨ j = 3 ∨ j = 4 ∨ j = 5 ∨ j = 6 := by omega
    rcases this with rfl | rfl | rfl | rfl | rfl | rfl | rfl <;> decide
theorem pw_small (j : Nat) (hj : j < 7) : pw j ≤ 4096 ∧ 64 ≤ pw j := by
  have : j = 0 ∨ j = 1 ∨ j = 2 ∨ j = 3 ∨ j = 4 ∨ j = 5 ∨ j = 6 := by omega
  rcases this with rfl | rfl | rfl | rfl | rfl | rfl | rfl <;> decide
theorem pw_lt : ∀ m j : Fin 7, j.1 < m.1 → pw j.1 < pw m.1 := by decide
theorem pw_next (j : Nat) : pw (j + 1) = 2 * pw j := by unfold pw; rw [Int.pow_succ]; omega

end Go.Proofs.YtahjckcfcdnlmaaGreatDoor.Ge
/- What may be a book's, by the document. -/
namespace Go.Proofs.YtahjckcfcdnlmaaGreatDoor
open Go.RowKit
attribute [local go_sem ↓] Go.wp_at_zero Go.wp_at_succ
attribute [local go_sem] Oper.semAt_some
/-- A bool that says P. -/
def RtP (w : World) (P : Prop) (e : Ending) (w' : World) : Prop := ∃ r : Bool, e = .returned (.bool r) ∧ (r = true ↔ P) ∧ w.grownBy w' none
theorem rtP_no {w w' : World} {P : Prop} (h : ¬ P) (g : w.grownBy w' none) : RtP w P (.returned (.bool false)) w' := ⟨false, rfl, by simpa using h, g⟩
theorem rtP_yes {w w' : World} {P : Prop} (h : P) (g : w.grownBy w' none) : RtP w P (.returned (.bool true)) w' := ⟨true, rfl, by simpa using h, g⟩
/-- The part of MayJ that is asked first. -/
def May7 (a n : Int) (X : List Bw) (j : Nat) : Prop := 1 ≤ ((rdw X j).i : Int) ∧ ((rdw X j).i : Int) < n ∧ (0 < j → ((rdw X (j - 1)).i : Int) < ((rdw X j).i : Int)) ∧ 0 ≤ (rdw X j).s ∧ (rdw X j).s < a
theorem mayJ_iff {a b n : Nat} {t : Int} {X : List Bw} {j : Nat} (hj : j < b) : MayJ a b n t X j ↔ May7 a n X j ∧ ((rdw X j).u = 0 ∨ (t < (rdw X j).u ∧ (rdw X j).u ≤ mxC)) ∧ ∀ k, k < j → (rdw X k).s ≠ (rdw X j).s := by
  constructor
  · intro h
    have h1 := h.lo; have h2 := h.hi; have h3 := h.s0; have h4 := h.s1
    unfold lst at h1
    refine ⟨⟨?_, by omega, fun h0 => ?_, h3, h4⟩, h.til, h.one⟩
    · split at h1 <;> omega
    · rw [if_neg (by omega)] at h1; omega
  · rintro ⟨⟨h1, h2, h3, h4, h5⟩, h6, h7⟩
    refine ⟨?_, by omega, h4, h5, h7, hj, h6⟩
    unfold lst
    split
    · omega
    · have := h3 (by omega); omega
def Cut7 (P : Prop) (wx : World) (v : Value) (W : World) : Prop := ∃ r : Bool, v = .bool r ∧ (r = false ↔ P) ∧ wx.grownBy W none
theorem cut7_no {P : Prop} {wx W : World} (h : ¬ P) (g : wx.grownBy W none) : Cut7 P wx (.bool true) W := ⟨true, rfl, by simpa using h, g⟩
theorem cut7_yes {P : Prop} {wx W : World} (h : P) (g : wx.grownBy W none) : Cut7 P wx (.bool false) W := ⟨false, rfl, by simpa using h, g⟩
set_option maxRecDepth 20000 in
set_option maxHeartbeats 16000000 in
theorem right_any {w : World} {a b c t : Int} {n : Nat} {ao : Option Addr} {len cap : Nat} {X : List Bw} (hS : Gx.OkS a b c) (hl : X.length = len) (hv : BwA w (.slice ao len cap) X) : Calls Tryz.prog 27 #[askV a b c n t ao len cap] w (RtP w (Right a b c n t X)) := by
  have hx := ask6.new w 33 (.int .i64 a) (.int .i64 b) (.int .i64 c) (.int .u32 (n : Int)) (.int .i64 t) (.slice ao len cap)
  have hw0 := grown_alloc w (.cells [.int .i64 a, .int .i64 b, .int .i64 c, .int .u32 (n : Int), .int .i64 t, .slice ao len cap].toArray 33)
  unfold askV
  by_cases c1 : n = 0
  · have HP : Hid (¬ Right a b c n t X) := fun h => by have := h.2.1; omega
    subst c1
    obtain ⟨d0, d1, d2, d3, d4, d5⟩ := hx
    have HG := hide hw0
    clear hw0 hS hl hv
    go_enter Tryz.func27, Tryz.ntmps27
    go_wp2
    go_ret
    exact rtP_no HP.out HG.out
  have e1 : ((n : Int) == 0) = false := by simp; omega
  have e1' : decide ((n : Int) = 0) = false := by simp; omega
  by_cases c2 : t < 0
  · have HP : Hid (¬ Right a b c n t X) := fun h => by have := h.2.2.1; omega
    obtain ⟨d0, d1, d2, d3, d4, d5⟩ := hx
    have HG := hide hw0
    clear hw0 hS hl hv
    go_enter Tryz.func27, Tryz.ntmps27
    go_wp2
    go_ret
    exact rtP_no HP.out HG.out
  by_cases c3 : (1099511627776 : Int) < t
  · have HP : Hid (¬ Right a b c n t X) := fun h => by have := h.2.2.2.1; simp only [mxC] at this; omega
    obtain ⟨d0, d1, d2, d3, d4, d5⟩ := hx
    have HG := hide hw0
    clear hw0 hS hl hv
    go_enter Tryz.func27, Tryz.ntmps27
    go_wp2
    go_ret
    exact rtP_no HP.out HG.out
  by_cases c4 : b < (len : Int)
  · have HP : Hid (¬ Right a b c n t X) := fun h => by
      have h1 := hS.2.2.1
      have := (h.2.2.2.2 b.toNat (by omega)).room
      omega
    obtain ⟨d0, d1, d2, d3, d4, d5⟩ := hx
    have HG := hide hw0
    clear hw0 hS hl hv
    go_enter Tryz.func27, Tryz.ntmps27
    go_wp2
    go_ret
    exact rtP_no HP.out HG.out
  have hb4 : len ≤ 4096 := by have := hS.2.2.2.1; omega
  have HA : Hid (((a.toNat : Nat) : Int) = a) := by have := hS.1; exact Int.toNat_of_nonneg (by omega)
  have HJ : Hid (∀ j, j < len → (MayJ a.toNat b.toNat n t X j ↔ May7 a n X j ∧ ((rdw X j).u = 0 ∨ (t < (rdw X j).u ∧ (rdw X j).u ≤ mxC)) ∧ ∀ k, k < j → (rdw X k).s ≠ (rdw X j).s)) := by
    intro j hj
    have := mayJ_iff (a := a.toNat) (b := b.toNat) (n := n) (t := t) (X := X) (j := j) (by have := hS.2.2.1; omega)
    rw [HA.out] at this
    exact this
  have HR : Hid ((∀ j, j < len → MayJ a.toNat b.toNat n t X j) ↔ Right a b c n t X) := by
    constructor
    · intro h
      exact ⟨hS, by omega, by omega, by simp only [mxC]; omega, fun j hj => h j (by omega)⟩
    · intro h j hj
      exact h.2.2.2.2 j (by omega)
  obtain ⟨vo, vcap, he, hrow⟩ := hv.ex
  have HV : Hid (∀ W, w.grownBy W none → ∀ i, i < len → ∃ g, ao = some ⟨g, 0, none⟩ ∧ W.cell? ⟨g, i * 3, none⟩ = some (.int .u32 ((rdw X i).i : Int)) ∧ W.cell? ⟨g, i * 3 + 1, none⟩ = some (.int .i64 (rdw X i).s) ∧ W.cell? ⟨g, i * 3 + 2, none⟩ = some (.int .i64 (rdw X i).u)) := by
    intro W hW i hi
    have hv' := hv.then hW
    obtain ⟨vo', vcap', he', hrow'⟩ := hv'.ex
    have e0 : vo' = ao := by simp at he'; exact he'.1.symm
    rw [← e0]
    exact hrow' i (by omega)
  have HX := hide hx
  have HG := hide hw0
  obtain ⟨d0, d1, d2, d3, d4, d5⟩ := hx
  clear hw0 hS hl hv he hrow
  go_enter Tryz.func27, Tryz.ntmps27
  go_wp2
  generalize hw0 : World.alloc w _ = w0 at *
  clear hw0 d0 d1 d2 d3 d4 d5
  go_loopg [3] len (fun k i wr => ∃ j : Nat, k + j = len ∧ i = .int .i64 j ∧ Hid (w0.grownBy wr none ∧ ∀ k, k < j → MayJ a.toNat b.toNat n t X k))
  case atStart => exact ⟨0, by omega, rfl, grown_refl _ _, fun k hk => by omega⟩
  case round =>
    obtain ⟨j, hkj, rfl, HQ⟩ := hrel
    obtain ⟨wo, rfl⟩ : ∃ wo, wo = wr := ⟨_, rfl⟩
    have hd := HX.out.then HQ.out.1
    obtain ⟨d0, d1, d2, d3, d4, d5⟩ := hd
    by_cases hk : 0 < gk
    · have hj : j < len := by omega
      have h1 : (0 : Int) ≤ (j : Int) := by omega
      have h2 : (j : Int) < (len : Int) := by omega
      obtain ⟨g, rfl, x0, x1, x2⟩ := HV.out wo (grown_trans HG.out HQ.out.1) j hj
      have HJj := hide (HJ.out j hj)
      have H7 : Hid (May7 a n X j ↔ May7 a n X j) := Iff.rfl
      obtain ⟨KK, hKK⟩ : ∃ KK, gk = KK := ⟨_, rfl⟩
      have HKK := hide hKK
      clear hKK
      generalize hxx : rdw X j = xx at *
      obtain ⟨xi, xs, xu⟩ := xx
      simp only at x0 x1 x2 HJj
      have HXX := hide hxx
      clear hxx
      go_upto_region 7 with fail
      generalize hwx : World.alloc wo _ = wx at *
      have hbx : wx.heap[wo.heap.size]? = some (.cells [.int .u32 (xi : Int), .int .i64 xs, .int .i64 xu].toArray 45 (0, 0)) := by rw [← hwx]; exact heap_alloc_new wo _
      have HGx : Hid (wo.grownBy wx none) := by rw [← hwx]; exact grown_alloc wo _
      have HBx := hide hbx
      obtain ⟨y0, y1, y2, -⟩ := box3 hbx
      have HDx := hide (HX.out.then (grown_trans HQ.out.1 HGx.out))
      clear hwx hbx x0 x1 x2 d0 d1 d2 d3 d4 d5
      obtain ⟨d0, d1, d2, d3, d4, d5⟩ := HDx.out
      go_cut [78] from 40 to 78 (fun v W => Cut7 (May7 a n X j) wx v W)
      case first =>
        by_cases q1 : xi = 0
        · have HN : Hid (¬ May7 a n X j) := fun h => by have := h.1; rw [HXX.out] at this; simp only at this; omega
          subst q1
          go_quiet (fail)
          go_wp2
          go_meet
          case rel => exact cut7_no (HN.out) (grown_drewN _ _ none)
        have q1a : ((xi : Int) == 0) = false := by simp; omega
        have q1b : decide ((xi : Int) = 0) = false := by simp; omega
        by_cases q2 : (n : Int) ≤ (xi : Int)
        · have HN : Hid (¬ May7 a n X j) := fun h => by have := h.2.1; rw [HXX.out] at this; simp only at this; omega
          have q2n : n ≤ xi := by omega
          go_quiet (fail)
          go_wp2
          go_meet
          case rel => exact cut7_no (HN.out) (grown_drewN _ _ none)
        have q2a : decide ((n : Int) ≤ (xi : Int)) = false := by simpa using q2
        have q2b : decide (n ≤ xi) = false := by simp; omega
        have q2c : ¬ n ≤ xi := by omega
        by_cases q0 : j = 0
        · have HJ0 := hide q0
          have q0a : ¬ (0 : Int) < (j : Int) := by omega
          have q0b : decide ((0 : Int) < (j : Int)) = false := by simpa using q0a
          have q0c : decide (0 < j) = false := by simp; omega
          have q0d : ¬ 0 < j := by omega
          clear q0
          by_cases q4 : xs < 0
          · have HN : Hid (¬ May7 a n X j) := fun h => by have := h.2.2.2.1; rw [HXX.out] at this; simp only at this; omega
            go_quiet (fail)
            go_wp2
            go_meet
            case rel => exact cut7_no (HN.out) (grown_drewN _ _ none)
          · by_cases q5 : xs < a
            · have HN : Hid (May7 a n X j) := by unfold May7; rw [HXX.out]; simp only; exact ⟨by omega, by omega, fun h0 => by omega, by omega, q5⟩
              have q5' : ¬ a ≤ xs := by omega
              have q5d : decide (a ≤ xs) = false := by simpa using q5
              go_quiet (fail)
              go_wp2
              go_meet
              case rel => exact cut7_yes (HN.out) (grown_drewN _ _ none)
            · have HN : Hid (¬ May7 a n X j) := fun h => by have := h.2.2.2.2; rw [HXX.out] at this; simp only at this; omega
              have q5' : a ≤ xs := by omega
              go_quiet (fail)
              go_wp2
              go_meet
              case rel => exact cut7_no (HN.out) (grown_drewN _ _ none)
        · have q0a : (0 : Int) < (j : Int) := by omega
          have q0d : 0 < j := by omega
          have ew : IntKind.i64.wrap ((j : Int) - 1) = ((j - 1 : Nat) : Int) := by rw [IntKind.wrap_i64]; omega
          obtain ⟨g2, hg2, z0, z1, z2⟩ := HV.out wx (grown_trans HG.out (grown_trans HQ.out.1 HGx.out)) (j - 1) (by omega)
          obtain rfl : g = g2 := by simpa using hg2
          have hjm1 : (0 : Int) ≤ ((j - 1 : Nat) : Int) := by omega
          have hjm2 : ((j - 1 : Nat) : Int) < (len : Int) := by omega
          have HPi := hide (rfl : rdw X (j - 1) = rdw X (j - 1))
          obtain ⟨pp, hpp⟩ : ∃ pp, rdw X (j - 1) = pp := ⟨_, rfl⟩
          have HPP := hide hpp
          rw [hpp] at z0 z1 z2
          obtain ⟨pi, ps, pu⟩ := pp
          simp only at z0 z1 z2
          clear hpp HPi hg2 q0
          have HJ1 := hide (rfl : j - 1 = j - 1)
          generalize hj1 : j - 1 = j1 at *
          clear HJ1
          have HJ1 := hide hj1
          clear hj1
          by_cases q3 : (xi : Int) ≤ (pi : Int)
          · have HN : Hid (¬ May7 a n X j) := fun h => by have := h.2.2.1 q0d; rw [HXX.out, HJ1.out, HPP.out] at this; simp only at this; omega
            have q3n : xi ≤ pi := by omega
            go_quiet (fail)
            go_wp2
            go_meet
            case rel => exact cut7_no (HN.out) (grown_drewN _ _ none)
          have q3a : decide ((xi : Int) ≤ (pi : Int)) = false := by simpa using q3
          have q3b : decide (xi ≤ pi) = false := by simp; omega
          have q3c : ¬ xi ≤ pi := by omega
          by_cases q4 : xs < 0
          · have HN : Hid (¬ May7 a n X j) := fun h => by have := h.2.2.2.1; rw [HXX.out] at this; simp only at this; omega
            go_quiet (fail)
            go_wp2
            go_meet
            case rel => exact cut7_no (HN.out) (grown_drewN _ _ none)
          · by_cases q5 : xs < a
            · have HN : Hid (May7 a n X j) := by unfold May7; rw [HXX.out]; simp only; exact ⟨by omega, by omega, fun h0 => by rw [HJ1.out, HPP.out]; simp only; omega, by omega, q5⟩
              have q5' : ¬ a ≤ xs := by omega
              have q5d : decide (a ≤ xs) = false := by simpa using q5
              go_quiet (fail)
              go_wp2
              go_meet
              case rel => exact cut7_yes (HN.out) (grown_drewN _ _ none)
            · have HN : Hid (¬ May7 a n X j) := fun h => by have := h.2.2.2.2; rw [HXX.out] at this; simp only at this; omega
              have q5' : a ≤ xs := by omega
              go_quiet (fail)
              go_wp2
              go_meet
              case rel => exact cut7_no (HN.out) (grown_drewN _ _ none)
      case rest =>
      obtain ⟨r, rfl, hr7, hgc⟩ := hcut
      have HGc := hide (grown_trans HGx.out hgc)
      have HBc := hide ((hgc.block _ (row_lt HBx.out) (by simp)).trans HBx.out)
      have HR7 := hide hr7
      have HDc := hide (HX.out.then (grown_trans HQ.out.1 HGc.out))
      clear hr7 hgc d0 d1 d2 d3 d4 d5 y0 y1 y2 HDx HBx HGx H7
      obtain ⟨y0, y1, y2, -⟩ := box3 HBc.out
      obtain ⟨d0, d1, d2, d3, d4, d5⟩ := HDc.out
      cases r with
      | true =>
        have HN : Hid (¬ Right a b c n t X) := fun h => by
          have h1 := HJj.out.1 (HR.out.2 h j hj)
          have := HR7.out.2 h1.1
          cases this
        go_wp2
        go_ret
        exact rtP_no HN.out (grown_trans HG.out (grown_trans HQ.out.1 HGc.out))
      | false =>
        have HM7 : Hid (May7 a n X j) := HR7.out.1 rfl
        clear HR7
        go_upto_region 9 with fail
        go_cut [93] from 79 to 93 (fun v W => Cut7 (xu = 0 ∨ (t < xu ∧ xu ≤ mxC)) wc v W)
        case first =>
          by_cases p1 : xu = 0
          · have HN : Hid (xu = 0 ∨ (t < xu ∧ xu ≤ mxC)) := .inl p1
            have HN' : Hid ((0 : Int) = 0 ∨ (t < (0 : Int) ∧ (0 : Int) ≤ mxC)) := .inl rfl
            subst p1
            go_wp2
            go_meet
            case rel => exact cut7_yes (by first | exact .inl rfl | exact .inl trivial | simp) (grown_refl _ _)
          have p1a : (xu != 0) = true := by simpa using p1
          have p1b : (xu == 0) = false := by simpa using p1
          have p1c : decide (xu = 0) = false := by simpa using p1
          by_cases p2 : xu ≤ t
          · have HN : Hid (¬ (xu = 0 ∨ (t < xu ∧ xu ≤ mxC))) := by intro h; omega
            go_wp2
            go_meet
            case rel => exact cut7_no (HN.out) (grown_refl _ _)
          by_cases p3 : (1099511627776 : Int) < xu
          · have HN : Hid (¬ (xu = 0 ∨ (t < xu ∧ xu ≤ mxC))) := by intro h; simp only [mxC] at h; omega
            go_wp2
            go_meet
            case rel => exact cut7_no (HN.out) (grown_refl _ _)
          have HN : Hid (xu = 0 ∨ (t < xu ∧ xu ≤ mxC)) := by simp only [mxC]; exact .inr ⟨by omega, by omega⟩
          go_wp2
          go_meet
          case rel => exact cut7_yes (HN.out) (grown_refl _ _)
        case rest =>
        obtain ⟨r, rfl, hr9, hgd⟩ := hcut
        have HGd := hide (grown_trans HGc.out hgd)
        have HBd := hide ((hgd.block _ (row_lt HBc.out) (by simp)).trans HBc.out)
        have HR9 := hide hr9
        have HDd := hide (HX.out.then (grown_trans HQ.out.1 HGd.out))
        clear hr9 hgd d0 d1 d2 d3 d4 d5 y0 y1 y2 HDc HBc HGc
        obtain ⟨y0, y1, y2, -⟩ := box3 HBd.out
        obtain ⟨d0, d1, d2, d3, d4, d5⟩ := HDd.out
        cases r with
        | true =>
          have HN : Hid (¬ Right a b c n t X) := fun h => by
            have h1 := HJj.out.1 (HR.out.2 h j hj)
            have := HR9.out.2 h1.2.1
            cases this
          go_wp2
          go_ret
          exact rtP_no HN.out (grown_trans HG.out (grown_trans HQ.out.1 HGd.out))
        | false =>
          have HM9 := hide (HR9.out.1 rfl)
          clear HR9 d0 d1 d2 d3 d4 d5 y0 y1 y2
          go_wp2
          go_loopg [5] j (fun k i wi => ∃ q : Nat, k + q = j ∧ i = .int .i64 q ∧ Hid (wo.grownBy wi none ∧ wi.heap[wo.heap.size]? = some (.cells [.int .u32 (xi : Int), .int .i64 xs, .int .i64 xu].toArray 45 (0, 0)) ∧ ∀ k, k < q → (rdw X k).s ≠ xs))
          case atStart => exact ⟨0, by omega, rfl, HGd.out, HBd.out, fun k hk => by omega⟩
          case round =>
            obtain ⟨q, hkq, rfl, HI⟩ := hrel
            by_cases hq : 0 < gk
            · have hqj : q < j := by omega
              have g1 : (0 : Int) ≤ (q : Int) := by omega
              have g2 : (q : Int) < (j : Int) := by omega
              have g3 : (q : Int) < (len : Int) := by omega
              obtain ⟨gg, hgg, z0, z1, z2⟩ := HV.out wr (grown_trans HG.out (grown_trans HQ.out.1 HI.out.1)) q (by omega)
              obtain rfl : g = gg := by simpa using hgg
              obtain ⟨y0, y1, y2, -⟩ := box3 HI.out.2.1
              obtain ⟨d0, d1, d2, d3, d4, d5⟩ := HX.out.then (grown_trans HQ.out.1 HI.out.1)
              have HSq := hide (rfl : (rdw X q).s = (rdw X q).s)
              generalize hsq : (rdw X q).s = sq at *
              have HSq := hide hsq
              clear hsq hgg z0 z2
              by_cases he : sq = xs
              · have HN : Hid (¬ Right a b c n t X) := fun h => by
                  have h1 := (HJj.out.1 (HR.out.2 h j hj)).2.2 q hqj
                  rw [HSq.out] at h1
                  exact h1 he
                subst he
                go_upto_region 14 with fail
                go_quiet (fail)
                go_wp2
                go_ret
                exact rtP_no HN.out (grown_trans HG.out (grown_trans HQ.out.1 (grown_trans HI.out.1 (grown_drewN _ _ none))))
              · have he1 : (sq == xs) = false := by simpa using he
                have he2 : decide (sq = xs) = false := by simpa using he
                have HE : Hid ((rdw X q).s ≠ xs) := by rw [HSq.out]; exact he
                clear he
                go_upto_region 14 with fail
                go_quiet (fail)
                go_wp2
                go_roundg (gk - 1)
                case measure => omega
                case rel =>
                  refine ⟨q + 1, by omega, by go_num, grown_trans HI.out.1 (grown_drewN _ _ none), ((grown_drewN _ _ none).block _ (row_lt HI.out.2.1) (by simp)).trans HI.out.2.1, fun k hk => ?_⟩
                  by_cases hkq' : k = q
                  · rw [hkq']; exact HE.out
                  · exact HI.out.2.2 k (by omega)
            · have hqe : q = j := by omega
              subst hqe
              have HM : Hid (MayJ a.toNat b.toNat n t X q) := HJj.out.2 ⟨HM7.out, HM9.out, fun k hk => HI.out.2.2 k hk⟩
              have g1 : ¬ (q : Int) < (q : Int) := by omega
              go_wp2
              go_roundg (KK - 1)
              case measure => have := HKK.out; omega
              case rel =>
                refine ⟨q + 1, by have := HKK.out; omega, by go_num, grown_trans HQ.out.1 HI.out.1, fun k hk => ?_⟩
                by_cases hkq' : k = q
                · rw [hkq']; exact HM.out
                · exact HQ.out.2 k (by omega)
    · have hje : j = len := by omega
      subst hje
      have HN : Hid (Right a b c n t X) := HR.out.1 HQ.out.2
      have g1 : ¬ (j : Int) < (j : Int) := by omega
      go_wp2
      go_ret
      exact rtP_yes HN.out (grown_trans HG.out HQ.out.1)
end Go.Proofs.YtahjckcfcdnlmaaGreatDoor
