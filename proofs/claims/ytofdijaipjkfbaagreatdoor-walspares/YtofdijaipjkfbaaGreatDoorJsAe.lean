/- Texts joined: FX3. -/
import Derived.Test.YtofdijaipjkfbaaGreatDoorJsAd
/- The bag that frames and their bodies are put into: putBytes, oneFrame. -/
namespace Go.Proofs.YtofdijaipjkfbaaGreatDoor.Fm.Af
open Go.RowKit
attribute [local go_sem ↓] Go.wp_at_zero Go.wp_at_succ

/-- The cells of a bag: lists of bytes, lists of frames, nothing else. -/
def bagD (v u : Value) : List Value := List.replicate 4 (.slice none 0 0) ++ v :: (List.replicate 3 (.slice none 0 0) ++ u :: List.replicate 10 (.slice none 0 0))
theorem bagD_b (v u : Value) : (bagD v u)[4]? = some v := rfl
theorem bagD_f (v u : Value) : (bagD v u)[8]? = some u := rfl
theorem bagD_setb (v u v' : Value) : (bagD v u).set 4 v' = bagD v' u := rfl
theorem bagD_setf (v u u' : Value) : (bagD v u).set 8 u' = bagD v u' := rfl

theorem lists_append {Ti E : TypeId} (hT : Tryz.prog.underlying Ti = some (.slice E)) (hE : (Tryz.prog.info? E).map (fun i => (i.zero, i.size, i.bytes)) = some (some (.slice none 0 0), 1, 24)) {w : World} {ops : Array Oper} {rest : List Oper} {o : Oper} {a : Act} {Q : Exit → Act → World → Prop} (hgd : o.guard = none) (s x : Operand)
    (ho : o.op = .call { callee := .builtin .append, args := #[s, x], argTypes := #[Ti, Ti] }) (base : Nat) (v : Value) (n : Nat) (xs : List Value) (hs : a.eval s = v) (hown : w.ownsRow base E 1 v n xs)
    (ad : Addr) (c : Nat) (y : Value) (hx : a.eval x = .slice (some ad) 1 c) (hy : y.oneCell' = true) (hcell : w.cell? ad = some y) (hoff : ad.add 0 = ad) (hbytes : n ≤ 400000) (hbase : base ≤ w.heap.size)
    (h : ∀ v' w', w'.ownsRow base E 1 v' (n + 1) (xs ++ [y]) → w.grownBy w' v.ownBlock → wpList Tryz.prog ops Q rest (a.put o.dst v') w') : wpList Tryz.prog ops Q (o :: rest) a w := by
  obtain ⟨i0, hi, hz0, hz1, hz2⟩ := info_parts hE
  refine wpList_append_own _ hgd s x Ti ho base E i0 (.slice none 0 0) 1 24 hT hi hz0 hz1 hz2 rfl (by decide) v n xs hs hown ad 1 c [y] hx rfl ?_ ?_ (by unfold maxLen; omega) (by omega) hbase (fun v' w' h1 h2 _ => h v' w' h1 h2)
  · intro j u hu
    cases j with
    | zero => simp at hu; rw [hoff, ← hu]; exact hcell
    | succ j => simp at hu
  · intro u hu; simp at hu; rw [hu]; exact hy
theorem below_trans {B : Nat} {a b c : World} (h : Below B a b) (k : Below B b c) : Below B a c := ⟨k.os.trans h.os, k.tape.trans h.tape, k.output.trans h.output, Nat.le_trans h.size k.size, fun i hi => (k.block i hi).trans (h.block i hi)⟩
theorem below_of {B : Nat} {a b : World} {row : Option Nat} (h : a.grownBy b row) (hB : B ≤ a.heap.size) (hr : ∀ k, row = some k → B ≤ k) : Below B a b :=
  ⟨h.os, h.tape, h.output, h.size, fun k hk => h.block k (by omega) (fun e => by have := hr k e.symm; omega)⟩
theorem own_slice {w : World} {B n sz : Nat} {e : TypeId} {v : Value} {xs : List Value} (h : w.ownsRow B e sz v n xs) : ∃ ao cap, v = .slice ao n cap := by
  rcases h.2 with ⟨rfl, rfl⟩ | ⟨g, cap, cur, rfl, _⟩
  · exact ⟨_, _, rfl⟩
  · exact ⟨_, _, rfl⟩
/-- A bag beside what is in it. -/
structure Bag (w : World) (b B : Nat) (lsv usv : Value) (K J : Nat) (vs us : List Value) : Prop where
  bag : w.heap[b]? = some (.cells (bagD lsv usv).toArray 132 (0, 0))
  bs : w.ownsRow B 39 1 lsv K vs
  fs : w.ownsRow B 54 1 usv J us
  z : K = 0 → lsv = .slice none 0 0
  Bb : B ≤ b
  Bw : B ≤ w.heap.size
theorem Bag.none {w w' : World} {b B K J : Nat} {lsv usv : Value} {vs us : List Value} (h : Bag w b B lsv usv K J vs us) (hg : w.grownBy w' none) : Bag w' b B lsv usv K J vs us :=
  ⟨(hg.block b (row_lt h.bag) (by simp)).trans h.bag, h.bs.kept hg (by cases lsv.ownBlock <;> simp), h.fs.kept hg (by cases usv.ownBlock <;> simp), h.z, h.Bb, Nat.le_trans h.Bw hg.size⟩

set_option maxHeartbeats 1000000 in
theorem putBytes_any (b B : Nat) (lsv usv : Value) (K J : Nat) (vs us : List Value) (ao : Option Addr) (n c : Nat) (w : World) (h : Bag w b B lsv usv K J vs us) (hK : K ≤ 400000) :
    Calls Tryz.prog 161 #[.pointer (some ⟨b, 0, none⟩), .slice ao n c] w fun e w' => e = .returned (.tuple #[]) ∧ ∃ lsv', Bag w' b B lsv' usv (K + 1) J (vs ++ [.slice ao n c]) us ∧ Below B w w' := by
  have c4 : w.cell? ⟨b, 4, none⟩ = some lsv := by rw [cell_row h.bag]; exact bagD_b _ _
  have H := hide h
  have hlt := row_lt h.bag
  have hB := h.Bw
  obtain ⟨al, cl, hl⟩ := own_slice h.bs
  subst hl
  clear h
  go_enter Tryz.func161, Tryz.ntmps161
  go_wp2_with (at_builtin; refine lists_append Tryz.underlying51 Ap.Tryz.info39 rfl (.tmp 8) (.tmp 10) rfl B (.slice al K cl) K vs rfl (H.out.bs.alloc _) ⟨w.heap.size, 0, none⟩ 1 (.slice ao n c) rfl rfl ?_ (by rfl) hK (by simp; omega) ?_)
  · exact Ap.cell_new w (.slice ao n c) 39
  · intro v' w' hown' hgr
    have hN := H.out.none (World.grownBy_alloc w (.cells #[Value.slice ao n c] 39) none)
    have hneb : (Value.slice al K cl).ownBlock ≠ some b := own_bag hN.bs hN.bag (by decide)
    have hb2 : w'.heap[b]? = some (.cells (bagD (.slice al K cl) usv).toArray 132 (0, 0)) := (hgr.block b (row_lt hN.bag) (fun e => hneb e.symm)).trans hN.bag
    have d4 : w'.cell? ⟨b, 4, none⟩ = some (.slice al K cl) := by rw [cell_row hb2]; exact bagD_b _ _
    have f4 : w'.frozen? ⟨b, 4, none⟩ = false := free_row hb2 _
    obtain ⟨ax, cx, hxv⟩ := own_slice hown'
    subst hxv
    have hfs := hN.fs.kept hgr (Ap.own_ne hN.fs hN.bs (by decide))
    have hlt2 : ∀ k, (Value.slice al K cl).ownBlock = some k → B ≤ k := fun k e => (hN.bs.lt k e).1
    have H2 := hide (And.intro hb2 (And.intro hown' (And.intro hgr (And.intro hlt2 hfs))))
    clear hN hneb hb2 hown' hgr hlt2 hfs
    go_wp2
    go_end0
    obtain ⟨hb2, hown', hgr, hlt2, hfs⟩ := H2.out
    have g3 := grown_setCell w' b 4 (.slice ax (K + 1) cx)
    refine ⟨rfl, _, ⟨(row_setCell hb2 4 _).trans (by rw [bagD_setb]), hown'.kept g3 (Or.inr (own_bag hown' hb2 (by decide))), hfs.kept g3 (Or.inr (own_bag hfs hb2 (by decide))), fun e => by omega, H.out.Bb, ?_⟩, ?_⟩
    · have := hgr.size; have := g3.size; simp at *; omega
    · have b1 := below_of (World.grownBy_alloc w (.cells #[Value.slice ao n c] 39) none) hB (fun k e => by cases e)
      have b2 := below_of hgr (Nat.le_trans hB (World.grownBy_alloc w (.cells #[Value.slice ao n c] 39) none).size) hlt2
      have b3 := below_of g3 (Nat.le_trans hB (Nat.le_trans (World.grownBy_alloc w (.cells #[Value.slice ao n c] 39) none).size hgr.size)) (fun k e => by cases e; exact H.out.Bb)
      exact below_trans (below_trans b1 b2) b3

set_option maxHeartbeats 1000000 in
theorem oneFrame_any (b B : Nat) (lsv usv : Value) (K J : Nat) (vs us : List Value) (e s : Int) (ao : Option Addr) (n c : Nat) (w : World) (h : Bag w b B lsv usv K J vs us) (hK : K ≤ 400000) :
    Calls Tryz.prog 117 #[.pointer (some ⟨b, 0, none⟩), frV e s (.slice ao n c)] w fun e w' => e = .returned (.tuple #[]) ∧ ∃ lsv', Bag w' b B lsv' usv (K + 1) J (vs ++ [.slice ao n c]) us ∧ Below B w w' := by
  unfold frV
  have ga := World.grownBy_alloc w (.cells #[.int .u64 e, .int .u64 s, .slice ao n c] 104) none
  have HP := hide (putBytes_any b B lsv usv K J vs us ao n c _ (h.none ga) hK)
  have HB := hide (below_of ga h.Bw (fun k e => by cases e))
  clear h ga
  go_enter Tryz.func117, Tryz.ntmps117
  go_wp2_with fail
  refine HP.out.mono ?_
  rintro r w1 ⟨rfl, lsv', h1, h2⟩
  have H := hide (And.intro h1 (below_trans HB.out h2))
  clear h1 h2
  go_wp2
  go_end0
  exact ⟨rfl, lsv', H.out.1, H.out.2⟩

/-- A list of frames, as it lies: the cells of each, and what its body's value is. -/
def Lies (w : World) (ao : Option Addr) (ys : List El) : Prop := ∀ j x, ys[j]? = some x → ∃ g, ao = some ⟨g, 0, none⟩ ∧ w.cell? ⟨g, j * 3, none⟩ = some (.int .u64 x.f.e) ∧ w.cell? ⟨g, j * 3 + 1, none⟩ = some (.int .u64 x.f.s) ∧ w.cell? ⟨g, j * 3 + 2, none⟩ = some x.v ∧ ∃ bo m k, x.v = .slice bo m k
theorem Lies.below {w w' : World} {ao : Option Addr} {ys : List El} {B : Nat} (h : Lies w ao ys) (hb : Below B w w') (hB : ∀ a, ao = some a → a.block < B) : Lies w' ao ys := fun j x hx => by
  obtain ⟨g, rfl, h1, h2, h3, h4⟩ := h j x hx
  have e := hb.block g (hB _ rfl)
  refine ⟨g, rfl, ?_, ?_, ?_, h4⟩
  · simp only [World.cell?, e] at h1 ⊢; exact h1
  · simp only [World.cell?, e] at h2 ⊢; exact h2
  · simp only [World.cell?, e] at h3 ⊢; exact h3

set_option maxRecDepth 100000 in
set_option maxHeartbeats 2000000 in
theorem putFrames_any (b B : Nat) (lsv usv : Value) (K J : Nat) (vs us : List Value) (ao : Option Addr) (n c : Nat) (ys : List El) (w : World) (h : Bag w b B lsv usv K J vs us) (hl : ys.length = n) (hL : Lies w ao ys) (hA : ∀ a, ao = some a → a.block < B) (hK : K + n ≤ 400000) (hJ : J ≤ 400000) :
    Calls Tryz.prog 78 #[.pointer (some ⟨b, 0, none⟩), .slice ao n c] w fun e w' => e = .returned (.tuple #[]) ∧ ∃ lsv' usv', Bag w' b B lsv' usv' (K + n) (J + 1) (vs ++ ys.map El.v) (us ++ [.slice ao n c]) ∧ Below B w w' := by
  have c8 : w.cell? ⟨b, 8, none⟩ = some usv := by rw [cell_row h.bag]; exact bagD_f _ _
  have H := hide (And.intro h (And.intro hL (And.intro hA hl)))
  have hlt := row_lt h.bag
  have hB := h.Bw
  obtain ⟨al, cl, hl2⟩ := own_slice h.fs
  subst hl2
  clear h hL hA hl
  go_enter Tryz.func78, Tryz.ntmps78
  go_wp2_with (at_builtin; refine lists_append Tryz.underlying75 Tryz.info54 rfl (.tmp 9) (.tmp 11) rfl B (.slice al J cl) J us rfl (H.out.1.fs.alloc _) ⟨w.heap.size, 0, none⟩ 1 (.slice ao n c) rfl rfl ?_ (by rfl) hJ (by simp; omega) ?_)
  · exact Ap.cell_new w (.slice ao n c) 54
  · intro v' w' hown' hgr
    have hN := H.out.1.none (World.grownBy_alloc w (.cells #[Value.slice ao n c] 54) none)
    have hneb : (Value.slice al J cl).ownBlock ≠ some b := own_bag hN.fs hN.bag (by decide)
    have hb2 : w'.heap[b]? = some (.cells (bagD lsv (.slice al J cl)).toArray 132 (0, 0)) := (hgr.block b (row_lt hN.bag) (fun e => hneb e.symm)).trans hN.bag
    have d8 : w'.cell? ⟨b, 8, none⟩ = some (.slice al J cl) := by rw [cell_row hb2]; exact bagD_f _ _
    have f8 : w'.frozen? ⟨b, 8, none⟩ = false := free_row hb2 _
    obtain ⟨ax, cx, hxv⟩ := own_slice hown'
    subst hxv
    have hbs := hN.bs.kept hgr (Ap.own_ne hN.bs hN.fs (by decide))
    have hlt2 : ∀ k, (Value.slice al J cl).ownBlock = some k → B ≤ k := fun k e => (hN.fs.lt k e).1
    have g3 := grown_setCell w' b 8 (.slice ax (J + 1) cx)
    have hBag : Bag (w'.setCell ⟨b, 8, none⟩ (.slice ax (J + 1) cx)) b B lsv (.slice ax (J + 1) cx) K (J + 1) vs (us ++ [.slice ao n c]) := by
      refine ⟨(row_setCell hb2 8 _).trans (by rw [bagD_setf]), hbs.kept g3 (Or.inr (own_bag hbs hb2 (by decide))), hown'.kept g3 (Or.inr (own_bag hown' hb2 (by decide))), H.out.1.z, H.out.1.Bb, ?_⟩
      have := hgr.size; have := g3.size; simp at *; omega
    have hBel : Below B w (w'.setCell ⟨b, 8, none⟩ (.slice ax (J + 1) cx)) := by
      have b1 := below_of (World.grownBy_alloc w (.cells #[Value.slice ao n c] 54) none) hB (fun k e => by cases e)
      have b2 := below_of hgr (Nat.le_trans hB (World.grownBy_alloc w (.cells #[Value.slice ao n c] 54) none).size) hlt2
      have b3 := below_of g3 (Nat.le_trans hB (Nat.le_trans (World.grownBy_alloc w (.cells #[Value.slice ao n c] 54) none).size hgr.size)) (fun k e => by cases e; exact H.out.1.Bb)
      exact below_trans (below_trans b1 b2) b3
    have H2 := hide (And.intro hBag hBel)
    have hn6 : (n : Int) ≤ 400000 := by omega
    clear hN hneb hb2 hown' hgr hlt2 hbs g3 hBag hBel
    go_wp2
    generalize hw3 : w'.setCell ⟨b, 8, none⟩ (.slice ax (J + 1) cx) = w3 at *
    clear hw3
    go_loopg [4] n (fun q i wr => ∃ (j : Nat) (lsv2 : Value), q + j = n ∧ i = .int .i64 j ∧ Hid (Bag wr b B lsv2 (.slice ax (J + 1) cx) (K + j) (J + 1) (vs ++ (ys.take j).map El.v) (us ++ [.slice ao n c]) ∧ Below B w wr))
    case atStart => exact ⟨0, lsv, by omega, rfl, hide ⟨by simpa using H2.out.1, H2.out.2⟩⟩
    case round =>
      obtain ⟨j, lsv2, hqj, rfl, HR⟩ := hrel
      by_cases hk : 0 < gk
      · have hj : (j : Int) < (n : Int) := by omega
        obtain ⟨x, hx⟩ : ∃ x, ys[j]? = some x := ⟨_, List.getElem?_eq_getElem (by have := H.out.2.2.2; omega)⟩
        obtain ⟨g, hao, e0, e1, e2, bo, m, k, hv⟩ := (H.out.2.1.below HR.out.2 H.out.2.2.1) j x hx
        rw [hv] at e2
        have HP := hide (oneFrame_any b B lsv2 (.slice ax (J + 1) cx) (K + j) (J + 1) (vs ++ (ys.take j).map El.v) (us ++ [.slice ao n c]) x.f.e x.f.s bo m k wr HR.out.1 (by omega))
        have HX : Hid (vs ++ (ys.take j).map El.v ++ [.slice bo m k] = vs ++ (ys.take (j + 1)).map El.v) := by
          show _ = _
          rw [List.take_add_one, hx, List.map_append, ← List.append_assoc, ← hv]
          rfl
        have HAO := hide hao
        subst hao
        unfold frV at HP
        clear hx hv
        go_wp2_with fail
        refine HP.out.mono ?_
        rintro r w4 ⟨rfl, lsv3, h1, h2⟩
        rw [HX.out] at h1
        have H4 := hide (And.intro h1 (below_trans HR.out.2 h2))
        clear h1 h2 e0 e1 e2
        go_wp2
        go_roundg (gk - 1)
        case measure => omega
        case rel => exact ⟨j + 1, lsv3, by omega, by go_num, hide ⟨by rw [← Nat.add_assoc]; exact H4.out.1, H4.out.2⟩⟩
      · obtain rfl : j = n := by omega
        have hj : ¬ (j : Int) < (j : Int) := by omega
        have HE : Hid (ys.take j = ys) := List.take_of_length_le (by have := H.out.2.2.2; omega)
        go_wp2
        go_end0
        exact ⟨rfl, ⟨lsv2, _, by have h := HR.out.1; rw [HE.out] at h; exact h⟩, HR.out.2⟩
end Go.Proofs.YtofdijaipjkfbaaGreatDoor.Fm.Af
