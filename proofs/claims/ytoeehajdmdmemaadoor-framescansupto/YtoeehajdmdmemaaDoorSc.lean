/- The walk of FrameScans. -/
import Derived.Test.YtoeehajdmdmemaaDoorSr
import Derived.Test.YtoeehajdmdmemaaDoorRr
namespace Go.Proofs.YtoeehajdmdmemaaDoor
open Go.RowKit Go.Shelf
attribute [local go_sem] Oper.semAt_some

/-- What FrameScans holds while it goes through the iterator: its answer's cell, what is wanted, the iterator. -/
structure ScS (w W : World) (Bw Bp : Nat) (yo po : Option Addr) (m yc pc : Nat) (ys : List El) : Prop where
  res : Boxed W w.heap.size 4 (.bool false)
  want : Boxed W Bw 41 (.slice yo m yc)
  pla : Boxed W Bp 47 (.slice po m pc)
  fs : FsAt W w.heap.size (.slice yo m yc) ys
  pls : W.ownsRow w.heap.size 3 1 (.slice po m pc) m (ints (plc (frs ys)))
  gr : w.grownBy W none
theorem ScS.grown {w W W' : World} {Bw Bp : Nat} {yo po : Option Addr} {m yc pc : Nat} {ys : List El} (h : ScS w W Bw Bp yo po m yc pc ys) (hg : W.grownBy W' none) : ScS w W' Bw Bp yo po m yc pc ys :=
  ⟨(hg.block _ h.res.lt (by simp)).trans h.res, (hg.block _ h.want.lt (by simp)).trans h.want, (hg.block _ h.pla.lt (by simp)).trans h.pla, h.fs.grown hg, own_grown h.pls hg, grown_trans h.gr hg⟩
def dfs (Ds : List Nat) : List Deferred := Ds.map fun D => { target := .collected D, args := #[] }
theorem dfs_length (Ds : List Nat) : (dfs Ds).length = Ds.length := by simp [dfs]
/-- At the head of a turn: what stands, and the marks of the turns before. -/
structure LpS (w W : World) (Bw Bt Bs Bb Be : Nat) (yo po bo : Option Addr) (yc pc bc n : Nat) (xs : List Int) (E S : Int) (ys : List El) (Ds : List Nat) : Prop where
  sc : ScS w W Bw (Bw + 1) yo po ys.length yc pc ys
  it : ItF W Bs Bb Be bo n bc xs E S
  tn : Boxed W Bt 3 (.int .i64 (Ds.length : Int))
  btl : Bw + 2 ≤ Bt
  marks : ∀ D ∈ Ds, Bw + 2 ≤ D ∧ W.heap[D]? = some (.deferred (some []))
  ap : Ds.Pairwise (fun a b => b < a)
  le : Ds.length ≤ 2
theorem lt_heap {W : World} {k : Nat} {o : Obj} (h : W.heap[k]? = some o) : k < W.heap.size := (Array.getElem?_eq_some_iff.1 h).1
theorem LpS.grown {w W W' : World} {Bw Bt Bs Bb Be : Nat} {yo po bo : Option Addr} {yc pc bc n : Nat} {xs : List Int} {E S : Int} {ys : List El} {Ds : List Nat} (h : LpS w W Bw Bt Bs Bb Be yo po bo yc pc bc n xs E S ys Ds) (hg : W.grownBy W' none) : LpS w W' Bw Bt Bs Bb Be yo po bo yc pc bc n xs E S ys Ds :=
  ⟨h.sc.grown hg, h.it.grown hg, (hg.block _ h.tn.lt (by simp)).trans h.tn, h.btl, fun D hD => ⟨(h.marks D hD).1, (hg.block _ (lt_heap (h.marks D hD).2) (by simp)).trans (h.marks D hD).2⟩, h.ap, h.le⟩
theorem heap_own_from {W W' : World} {row : Option Nat} {B k : Nat} {o : Obj} (h : W.heap[k]? = some o) (hg : W.grownBy W' row) (hr : ∀ r, row = some r → B ≤ r ∧ ∃ o : Obj, W.heap[r]? = some o ∧ o.isCells = false) (hk : k < B ∨ o.isCells = true) : W'.heap[k]? = some o := by
  refine (hg.block k (lt_heap h) (fun e => ?_)).trans h
  obtain ⟨h1, o', h2, h3⟩ := hr k e.symm
  rcases hk with hk | hk
  · omega
  · rw [h] at h2; cases h2; rw [hk] at h3; cases h3
theorem LpS.own_from {w : World} {Bw Bt Bs Bb Be : Nat} {yo po bo : Option Addr} {yc pc bc n : Nat} {xs : List Int} {E S : Int} {ys : List El} {Ds : List Nat} {B : Nat} (hw : w.heap.size ≤ B) (hq : ∀ k, itQ Bs Bb Be (liveA bo xs) k → k < B) (hm : ∀ D ∈ Ds, D < B) : OwnFrom B (fun (_ : Unit) W => LpS w W Bw Bt Bs Bb Be yo po bo yc pc bc n xs E S ys Ds) := fun _ W W' row h hg hr => by
  refine ⟨⟨heap_own_from h.sc.res hg hr (Or.inr rfl), heap_own_from h.sc.want hg hr (Or.inr rfl), heap_own_from h.sc.pla hg hr (Or.inr rfl), FsAt.own_from B ys W W' row h.sc.fs hg hr, h.sc.pls.kept hg ?_, grown_then h.sc.gr hg (fun j e => Or.inl (by have := (hr j e).1; omega))⟩, h.it.keeps (Keeps.of hg (fun k hk hk2 => by have := (hr k hk).1; have := hq k hk2; omega)), heap_own_from h.tn hg hr (Or.inr rfl), h.btl, fun D hD => ⟨(h.marks D hD).1, heap_own_from (h.marks D hD).2 hg hr (Or.inl (hm D hD))⟩, h.ap, h.le⟩
  cases hq : (Value.slice po ys.length pc).ownBlock with
  | none => exact Or.inl rfl
  | some k =>
    refine Or.inr (fun e => ?_)
    obtain ⟨c, hc⟩ := own_cells h.sc.pls hq
    obtain ⟨_, o', h2, h3⟩ := hr k e.symm
    rw [hc] at h2
    cases h2
    cases h3
theorem LpS.turn {w W : World} {Bw Bt Bs Bb Be : Nat} {yo po bo : Option Addr} {yc pc bc n : Nat} {xs : List Int} {E S : Int} {ys : List El} {Ds : List Nat} (h : LpS w W Bw Bt Bs Bb Be yo po bo yc pc bc n xs E S ys Ds) (D : Nat) (u : Value) (hu : u = .int .i64 ((D :: Ds).length : Int)) (h1 : Bw + 2 ≤ D) (h2 : ∀ D' ∈ Ds, D' < D) (hK : W.heap[D]? = some (.deferred (some []))) (hle : Ds.length < 2) :
    LpS w (W.alloc (.cells #[u] 3)) Bw W.heap.size Bs Bb Be yo po bo yc pc bc n xs E S ys (D :: Ds) := by
  have hg := World.grownBy_alloc W (.cells #[u] 3) none
  have hL := h.grown hg
  have hlt := h.tn.lt
  refine ⟨hL.sc, hL.it, ?_, by have := h.btl; omega, ?_, List.pairwise_cons.2 ⟨h2, h.ap⟩, by simp; omega⟩
  · rw [← hu]; exact Boxed.new W 3 u
  · intro D' hD'
    rcases List.mem_cons.1 hD' with rfl | hD'
    · exact ⟨h1, (hg.block _ (lt_heap hK) (by simp)).trans hK⟩
    · exact hL.marks D' hD'
theorem LpS.put {w W : World} {Bw Bt Bs Bb Be : Nat} {yo po bo : Option Addr} {yc pc bc n : Nat} {xs : List Int} {E S : Int} {ys : List El} {Ds : List Nat} (h : LpS w W Bw Bt Bs Bb Be yo po bo yc pc bc n xs E S ys Ds) {Bi : Nat} {v : Value} (hB : Boxed W Bi 3 v) (u : Value) (h1 : Bw + 2 ≤ Bi) (hw : w.heap.size < Bw) (h2 : Bt ≠ Bi) (hp : ∀ k, (Value.slice po ys.length pc).ownBlock = some k → k ≠ Bi) (hq : ∀ k, itQ Bs Bb Be (liveA bo xs) k → k ≠ Bi) :
    LpS w (W.setCell ⟨Bi, 0, none⟩ u) Bw Bt Bs Bb Be yo po bo yc pc bc n xs E S ys Ds := by
  have hg := grown_setCell W Bi 0 u
  have hne : ∀ k, k ≠ Bi → some k ≠ some Bi := fun k hk e => hk (by cases e; rfl)
  refine ⟨⟨(hg.block _ h.sc.res.lt (hne _ (by omega))).trans h.sc.res, (hg.block _ h.sc.want.lt (hne _ (by omega))).trans h.sc.want, (hg.block _ h.sc.pla.lt (hne _ (by omega))).trans h.sc.pla, h.sc.fs.kept hg hB (by decide) (by decide), h.sc.pls.kept hg ?_, grown_then h.sc.gr hg (fun j e => by cases e; exact Or.inl (by omega))⟩, h.it.keeps (Keeps.of hg (fun k hk hk2 => by cases hk; exact hq _ hk2 rfl)), (hg.block _ h.tn.lt (hne _ h2)).trans h.tn, h.btl, fun D hD => ⟨(h.marks D hD).1, (hg.block _ (lt_heap (h.marks D hD).2) (hne _ ?_)).trans (h.marks D hD).2⟩, h.ap, h.le⟩
  · cases hk : (Value.slice po ys.length pc).ownBlock with
    | none => exact Or.inl rfl
    | some k => exact Or.inr (fun e => hp k hk (by cases e; rfl))
  · rintro rfl
    have := (h.marks D hD).2
    rw [show W.heap[D]? = _ from hB] at this
    cases this
/-- The frame at the head of a turn. -/
def scA (w : World) (Bw Bt Bs Bb Be : Nat) (u : Nat → Value) (Ds : List Nat) : Act := { tmps := #[(u 0), (u 1), (u 2), (u 3), (u 4), (u 5), Value.pointer (some ⟨w.heap.size, 0, none⟩), (u 7), (u 8), (u 9), Value.func (Fn.func 59) #[] #[Value.pointer (some ⟨Bs, 0, none⟩), Value.pointer (some ⟨Bb, 0, none⟩), Value.pointer (some ⟨Be, 0, none⟩)], (u 11), Value.pointer (some ⟨Bw, 0, none⟩), Value.pointer (some ⟨Bw + 1, 0, none⟩), (u 14), Value.pointer (some ⟨Bt, 0, none⟩), (u 16), (u 17), (u 18), (u 19), (u 20), (u 21), (u 22), (u 23), (u 24), (u 25), (u 26), (u 27), (u 28), (u 29), (u 30), (u 31), (u 32), (u 33), (u 34), (u 35), (u 36), (u 37), (u 38), (u 39), (u 40), (u 41), (u 42), (u 43), (u 44), (u 45), (u 46), (u 47), (u 48), (u 49), (u 50), (u 51), (u 52), (u 53), (u 54), (u 55), (u 56), (u 57), (u 58), (u 59), (u 60), (u 61), (u 62), (u 63), (u 64), (u 65), (u 66), (u 67), (u 68), (u 69), (u 70), (u 71), (u 72), (u 73), (u 74), (u 75), (u 76), (u 77), (u 78), (u 79), (u 80), (u 81), (u 82), (u 83), (u 84), (u 85), (u 86), (u 87), (u 88), (u 89), (u 90), (u 91), (u 92), (u 93), (u 94), (u 95), (u 96), (u 97), (u 98), (u 99), (u 100), (u 101), (u 102), (u 103), (u 104), (u 105), (u 106), (u 107), (u 108)], defers := dfs Ds }
theorem scA_of {w W : World} {Bw Bt Bs Bb Be : Nat} {yo po bo : Option Addr} {yc pc bc n : Nat} {xs : List Int} {E S : Int} {ys : List El} {Ds : List Nat} {a : Act} {u0 u1 u2 u3 u4 u5 u7 u8 u9 u11 u14 u16 u17 u18 u19 u20 u21 u22 u23 u24 u25 u26 u27 u28 u29 u30 u31 u32 u33 u34 u35 u36 u37 u38 u39 u40 u41 u42 u43 u44 u45 u46 u47 u48 u49 u50 u51 u52 u53 u54 u55 u56 u57 u58 u59 u60 u61 u62 u63 u64 u65 u66 u67 u68 u69 u70 u71 u72 u73 u74 u75 u76 u77 u78 u79 u80 u81 u82 u83 u84 u85 u86 u87 u88 u89 u90 u91 u92 u93 u94 u95 u96 u97 u98 u99 u100 u101 u102 u103 u104 u105 u106 u107 u108 : Value} (ha : a = { tmps := #[u0, u1, u2, u3, u4, u5, Value.pointer (some ⟨w.heap.size, 0, none⟩), u7, u8, u9, Value.func (Fn.func 59) #[] #[Value.pointer (some ⟨Bs, 0, none⟩), Value.pointer (some ⟨Bb, 0, none⟩), Value.pointer (some ⟨Be, 0, none⟩)], u11, Value.pointer (some ⟨Bw, 0, none⟩), Value.pointer (some ⟨Bw + 1, 0, none⟩), u14, Value.pointer (some ⟨Bt, 0, none⟩), u16, u17, u18, u19, u20, u21, u22, u23, u24, u25, u26, u27, u28, u29, u30, u31, u32, u33, u34, u35, u36, u37, u38, u39, u40, u41, u42, u43, u44, u45, u46, u47, u48, u49, u50, u51, u52, u53, u54, u55, u56, u57, u58, u59, u60, u61, u62, u63, u64, u65, u66, u67, u68, u69, u70, u71, u72, u73, u74, u75, u76, u77, u78, u79, u80, u81, u82, u83, u84, u85, u86, u87, u88, u89, u90, u91, u92, u93, u94, u95, u96, u97, u98, u99, u100, u101, u102, u103, u104, u105, u106, u107, u108], defers := dfs Ds }) (hL : LpS w W Bw Bt Bs Bb Be yo po bo yc pc bc n xs E S ys Ds) :
    ∃ (u : Nat → Value) (Bt : Nat) (Ds : List Nat), a = scA w Bw Bt Bs Bb Be u Ds ∧ LpS w W Bw Bt Bs Bb Be yo po bo yc pc bc n xs E S ys Ds :=
  ⟨fun k => [u0, u1, u2, u3, u4, u5, undef, u7, u8, u9, undef, u11, undef, undef, u14, undef, u16, u17, u18, u19, u20, u21, u22, u23, u24, u25, u26, u27, u28, u29, u30, u31, u32, u33, u34, u35, u36, u37, u38, u39, u40, u41, u42, u43, u44, u45, u46, u47, u48, u49, u50, u51, u52, u53, u54, u55, u56, u57, u58, u59, u60, u61, u62, u63, u64, u65, u66, u67, u68, u69, u70, u71, u72, u73, u74, u75, u76, u77, u78, u79, u80, u81, u82, u83, u84, u85, u86, u87, u88, u89, u90, u91, u92, u93, u94, u95, u96, u97, u98, u99, u100, u101, u102, u103, u104, u105, u106, u107, u108].getD k undef, Bt, Ds, ha, hL⟩

set_option maxRecDepth 100000 in
set_option maxHeartbeats 8000000 in
theorem scans_any (ao : Option Addr) (n cap : Nat) (xs : List Int) (E S : Int) (w : World) (h : Src w ao n cap xs) (hS0 : 0 ≤ S) (hS1 : S < 18446744073709551616) (hb : n ≤ 1099511627776) :
    Calls Tryd.prog 5 #[.slice ao n cap, .int .u64 E, .int .u64 S] w fun r w' => r = .returned (.bool true) ∧ w.grownBy w' none := by
  have H := hide h
  have h0 := tab_lt h.tab
  clear h
  refine (callsIn_wide (n := 6)).1 (callsIn_of_wp_marks Tryd.func5 rfl trivial ?_ rfl)
  simp only [Tryd.ntmps5, List.size_toArray, List.length_cons, List.length_nil, Nat.reduceAdd, Nat.reduceSub, Array.replicate_succ, Array.replicate_zero, List.push_toArray, List.append_toArray, List.nil_append, List.cons_append]
  refine wpIn_wide.2 ?_
  have G1 := hide (And.intro (World.grownBy_alloc w (.cells #[.bool false] 4) none) (Boxed.new w 4 (.bool false)))
  go_wp2_with fail
  generalize w.alloc (.cells #[.bool false] 4) = w1 at *
  refine (awake_any w1 (H.out.tab.grown G1.out.1)).mono ?_
  rintro r w2 ⟨rfl, hg⟩
  have G2 := hide (And.intro (grown_trans G1.out.1 hg) ((hg.block _ G1.out.2.lt (by simp)).trans G1.out.2))
  clear hg G1
  go_wp2_with fail
  refine (lent_any ao n cap xs w2 H.out.len (H.out.grown G2.out.1).lies H.out.nil (by omega)).mono ?_
  rintro r w3 ⟨v, rfl, hl, hg⟩
  obtain ⟨gv, vc, rfl, l3, hlf⟩ := hl.f H.out.len
  have G3 := hide (And.intro (grown_trans G2.out.1 hg) ((hg.block _ (row_lt G2.out.2) (by simp)).trans G2.out.2))
  have HL3 := hide hlf
  have hgl : w.heap.size < gv := by have h1 := (row_lt G2.out.2); omega
  have HS3 : Hid (Src w3 (some ⟨gv, 0, none⟩) n vc xs) := ⟨hlf.at_, H.out.len, (fun e => by cases e), (by have := hlf.fits; omega), H.out.byt, H.out.sm, H.out.tab.grown G3.out.1⟩
  clear hl hg l3 hlf G2
  go_wp2_with fail
  refine (scan_any (some ⟨gv, 0, none⟩) n vc xs E S w3 HS3.out hS0 hS1 hb).mono ?_
  rintro r w4 ⟨vl, ls, rfl, hls, hfs, hg⟩
  obtain ⟨A, hA⟩ : ∃ A, A = fend (rowF E S xs) := ⟨_, rfl⟩
  rw [← hA]
  have HA := hide hA
  have hAn : A ≤ n := by have := rowF_end E xs.length S xs (Nat.le_refl _) H.out.byt; rw [H.out.len] at this; omega
  obtain ⟨lo_, lc, rfl⟩ := own_form hfs.own
  have hg34 := hg.size
  have hg3 := HL3.out.lt
  have G4 := hide (And.intro (grown_trans G3.out.1 hg) (And.intro ((hg.block _ (row_lt G3.out.2) (by simp)).trans G3.out.2) (And.intro (HL3.out.grown hg) (And.intro (HS3.out.grown hg) (And.intro hls hfs)))))
  clear hg hls hfs G3 HL3 HS3 hA
  go_wp2_with fail
  refine (each_any (some ⟨gv, 0, none⟩) n vc xs E S w4 G4.out.2.2.2.1 hS0 hS1).mono ?_
  rintro r w5 ⟨Bs, Bb, Be, bo, bc, rfl, hI, i1, i2, i3, i4, hg⟩
  have hg45 := hg.size
  have G5 := hide (And.intro (grown_trans G4.out.1 hg) (And.intro ((hg.block _ (row_lt G4.out.2.1) (by simp)).trans G4.out.2.1) (And.intro (G4.out.2.2.1.grown hg) (And.intro G4.out.2.2.2.2.1 (And.intro (G4.out.2.2.2.2.2.grown hg) hI)))))
  have HI4 := hide i4
  unfold itV
  clear hg hI G4 i4
  go_wp2_with fail
  refine (kept_any gv vc ao n cap xs w5 H.out.len G5.out.2.2.1.fits G5.out.2.2.1.most G5.out.2.2.1.all (H.out.grown G5.out.1).lies (by omega)).mono ?_
  rintro r w6 ⟨rfl, hg⟩
  have G6 := hide (And.intro (grown_trans G5.out.1 hg) (And.intro ((hg.block _ (row_lt G5.out.2.1) (by simp)).trans G5.out.2.1) (And.intro (G5.out.2.2.1.grown hg) (And.intro G5.out.2.2.2.1 (And.intro (G5.out.2.2.2.2.1.grown hg) (G5.out.2.2.2.2.2.grown hg))))))
  have hg56 := hg.size
  clear hg G5
  go_wp2_with fail
  refine (over_any gv vc n w6 G6.out.2.2.1.cur G6.out.2.2.1.fits G6.out.2.2.1.most (by omega)).mono ?_
  rintro r w7 ⟨rfl, hg⟩
  have hg67 := hg.size
  have G7 : Hid (w.grownBy w7 none ∧ Boxed w7 w.heap.size 4 (.bool false) ∧ frs ls = rowF E S xs ∧ FsAt w7 w3.heap.size (.slice lo_ ls.length lc) ls ∧ ItF w7 Bs Bb Be bo n bc xs E S) := by
    obtain ⟨g1, g2, g3, g4, g5, g6⟩ := G6.out
    have hnl : ∀ k, w3.heap.size ≤ k → some gv ≠ some k := fun k hk e => by cases e; omega
    refine ⟨grown_then g1 hg (fun j e => by cases e; exact Or.inl (by omega)), (hg.block _ (row_lt g2) (by simp; omega)).trans g2, g4, ⟨g5.own.kept hg ?_, fun y hy => ⟨(g5.each y hy).1.other hg (fun k hk e => ?_), (g5.each y hy).2⟩, g5.apart⟩, g6.keeps (Keeps.of hg ?_)⟩
    · cases hq : (Value.slice lo_ ls.length lc).ownBlock with
      | none => exact Or.inl rfl
      | some k => exact Or.inr (fun e => hnl k (g5.own.lt k hq).1 (e ▸ rfl))
    · have h1 := ((g5.each y hy).1.own.lt k e).1
      have h2 := (g5.each y hy).2.1
      cases hk
      omega
    · rintro k hk (e | e | e | e | ⟨a, ha, e⟩)
      · cases hk; omega
      · cases hk; omega
      · cases hk; omega
      · cases hk; omega
      · cases hk
        have := HI4.out a (liveA_some ha).1
        omega
  clear hg G6
  go_wp2_with fail
  refine (row_any ao n cap xs E S w7 (H.out.grown G7.out.1) hS0 hS1 hb).mono ?_
  rintro r w8 ⟨vw, vp, ys, rfl, hys, hfs, hps, hg⟩
  rw [← HA.out]
  have hll : ls.length = ys.length := by rw [← frs_length, ← frs_length, G7.out.2.2.1, hys]
  rw [hll]
  obtain ⟨yo, yc, hv1⟩ := own_form hfs.own
  obtain ⟨po, pc, hv2⟩ := own_form hps
  subst hv1 hv2
  have ga1 := World.grownBy_alloc w8 (.cells #[.slice yo ys.length yc] 41) none
  have ga2 := World.grownBy_alloc (w8.alloc (.cells #[.slice yo ys.length yc] 41)) (.cells #[.slice po ys.length pc] 47) none
  have b1 : Boxed ((w8.alloc (.cells #[.slice yo ys.length yc] 41)).alloc (.cells #[.slice po ys.length pc] 47)) w8.heap.size 41 (.slice yo ys.length yc) := (Below.heap_alloc _ _ _ (by simp)).trans (Boxed.new w8 41 _)
  have b2 : Boxed ((w8.alloc (.cells #[.slice yo ys.length yc] 41)).alloc (.cells #[.slice po ys.length pc] 47)) (w8.heap.size + 1) 47 (.slice po ys.length pc) := by
    have := Boxed.new (w8.alloc (.cells #[.slice yo ys.length yc] 41)) 47 (.slice po ys.length pc)
    rwa [World.size_alloc] at this
  have hg9 := grown_trans hg (grown_trans ga1 ga2)
  have hg78 := hg.size
  have hlsz := row_lt G7.out.2.1
  have hz9 := hg9.size
  have hwsz : w.heap.size ≤ w7.heap.size := G7.out.1.size
  have HSc : Hid (ScS w ((w8.alloc (.cells #[.slice yo ys.length yc] 41)).alloc (.cells #[.slice po ys.length pc] 47)) w8.heap.size (w8.heap.size + 1) yo po ys.length yc pc ys) :=
    ⟨(hg9.block _ hlsz (by simp)).trans G7.out.2.1, b1, b2, (hfs.base hwsz).grown (grown_trans ga1 ga2), own_base (own_grown hps (grown_trans ga1 ga2)) hwsz, grown_trans G7.out.1 hg9⟩
  have HIt : Hid (ItF ((w8.alloc (.cells #[.slice yo ys.length yc] 41)).alloc (.cells #[.slice po ys.length pc] 47)) Bs Bb Be bo n bc xs E S) := G7.out.2.2.2.2.grown hg9
  have HIl : Hid (∀ k, itQ Bs Bb Be (liveA bo xs) k → k < w7.heap.size ∧ k ≠ w.heap.size) := fun k hk => ⟨itQ_lt G7.out.2.2.2.2 k hk, by
    rcases hk with e | e | e | e | ⟨a, ha, e⟩
    · omega
    · omega
    · omega
    · omega
    · have := HI4.out a (liveA_some ha).1; omega⟩
  have HFs : Hid (frs ls = frs ys ∧ FsAt ((w8.alloc (.cells #[.slice yo ys.length yc] 41)).alloc (.cells #[.slice po ys.length pc] 47)) w3.heap.size (.slice lo_ ls.length lc) ls) := ⟨by rw [G7.out.2.2.1, hys], G7.out.2.2.2.1.grown hg9⟩
  have HYs := hide hys
  have hpn : ys.length ≤ 1099511627776 := by
    have h1 := fend_len (frs ys)
    rw [frs_length, hys, ← HA.out] at h1
    omega
  have c1 := HSc.out.want.cell
  have hnil := eqlNil45
  clear hg hg9 ga1 ga2 b1 b2 hfs hps G7 hys HI4
  go_wp2_with fail
  have hsz9 : ((w8.alloc (.cells #[.slice yo ys.length yc] 41)).alloc (.cells #[.slice po ys.length pc] 47)).heap.size = w8.heap.size + 2 := by simp
  have HSz9 := hide hsz9
  clear hsz9
  generalize ((w8.alloc (.cells #[.slice yo ys.length yc] 41)).alloc (.cells #[.slice po ys.length pc] 47)) = w9 at *
  obtain ⟨Bw, hBw⟩ : ∃ Bw, Bw = w8.heap.size := ⟨_, rfl⟩
  rw [← hBw] at HSz9 HSc hg78 c1 ⊢
  clear hBw hz9
  have hpre : ls.length = ys.length ∧ FsR w9 lo_ ls ∧ FsR w9 yo ys := by
    obtain ⟨a1, c1, e1, r1, -⟩ := HFs.out.2.read
    obtain ⟨a2, c2, e2, r2, -⟩ := HSc.out.fs.read
    cases e1
    cases e2
    exact ⟨hll, r1, r2⟩
  refine (sameFrs lo_ yo ys.length lc yc ls ys w9 HFs.out.1 hpre.1 hpre.2.1 hpre.2.2 (by omega)).mono ?_
  rintro r w10 ⟨rfl, hg⟩
  have S10 := hide (HSc.out.grown hg)
  have I10 := hide (HIt.out.grown hg)
  have hz10 : Bw + 2 ≤ w10.heap.size := by have h1 := hg.size; have h2 := HSz9.out; omega
  have hBw7 : w7.heap.size ≤ Bw := hg78
  clear hg hpre HSc HIt HFs HSz9 c1 hll
  have L0 : Hid (LpS w (w10.alloc (.cells #[.int .i64 0] 3)) Bw w10.heap.size Bs Bb Be yo po bo yc pc bc n xs E S ys []) := by
    have ga := World.grownBy_alloc w10 (.cells #[.int .i64 0] 3) none
    exact ⟨S10.out.grown ga, I10.out.grown ga, Boxed.new w10 3 (.int .i64 0), hz10, (fun D hD => by cases hD), List.Pairwise.nil, by simp⟩
  go_wp2
  clear S10 I10
  refine wp_loop (fun a W => ∃ (u : Nat → Value) (Bt : Nat) (Ds : List Nat), a = scA w Bw Bt Bs Bb Be u Ds ∧ LpS w W Bw Bt Bs Bb Be yo po bo yc pc bc n xs E S ys Ds) (fun a _ => 2 - a.defers.length) (scA_of (Ds := []) rfl L0.out) ?_
  clear L0
  rintro a W ⟨u, Bt, Ds, rfl, hL⟩
  unfold scA
  have ct := hL.tn.cell
  by_cases ht : Ds.length = 2
  · obtain ⟨D2, D1, rfl⟩ : ∃ D2 D1, Ds = [D2, D1] := by
      match Ds, ht with
      | [a, b], _ => exact ⟨a, b, rfl⟩
    have HL := hide hL
    have cr := hL.sc.res.cell
    have fr := hL.sc.res.frozen
    simp only [List.length_cons, List.length_nil] at ct
    clear hL ht
    go_wp2
    simp only [dfs, List.map_cons, List.map_nil]
    have hm2 := HL.out.marks D2 (by simp)
    have hm1 := HL.out.marks D1 (by simp)
    have hne : D1 < D2 := by have := HL.out.ap; simp at this; exact this
    have hbw : w.heap.size < Bw := by omega
    have hgs := grown_setCell W w.heap.size 0 (.bool true)
    have k2 : (W.setCell ⟨w.heap.size, 0, none⟩ (.bool true)).heap[D2]? = some (.deferred (some [])) := (hgs.block _ (lt_heap hm2.2) (by simp; omega)).trans hm2.2
    have k1 : (W.setCell ⟨w.heap.size, 0, none⟩ (.bool true)).heap[D1]? = some (.deferred (some [])) := (hgs.block _ (lt_heap hm1.2) (by simp; omega)).trans hm1.2
    have kr := HL.out.sc.res.set (.bool true)
    generalize W.setCell ⟨w.heap.size, 0, none⟩ (.bool true) = W2 at *
    have k1' : (W2.putObj D2 (.deferred none)).heap[D1]? = some (.deferred (some [])) := (World.putObj_heap_other (by omega)).trans k1
    have kr' : ((W2.putObj D2 (.deferred none)).putObj D1 (.deferred none)).heap[w.heap.size]? = some (.cells #[.bool true] 4) := (World.putObj_heap_other (by omega)).trans ((World.putObj_heap_other (by omega)).trans kr)
    refine ⟨by simp, .inl ⟨_, _, rfl, run_takeDeferred k2, ?_⟩⟩
    refine ⟨by simp, .inl ⟨_, _, rfl, run_takeDeferred k1', ?_⟩⟩
    have kc := (show Boxed _ w.heap.size 4 (.bool true) from kr').cell
    refine ⟨.bool true, ?_, rfl, grown_then (grown_then (grown_then HL.out.sc.gr hgs (fun j e => by cases e; exact Or.inl (Nat.le_refl _))) (grownBy_putObj' _ D2 _) (fun k e => by cases e; exact Or.inl (by omega))) (grownBy_putObj' _ D1 _) (fun k e => by cases e; exact Or.inl (by omega))⟩
    rw [results_cell1 rfl]
    go_simp
  · have ht2 : (Ds.length : Int) < 2 := by have := hL.le; omega
    have HT := hide ht
    have ga := World.grownBy_alloc W (.cells #[.int .i64 0] 3) none
    have HL := hide (And.intro (hL.grown ga) (Boxed.new W 3 (.int .i64 0)))
    have hWs : W.heap.size < (W.alloc (.cells #[.int .i64 0] 3)).heap.size := by simp
    have hBtW := hL.tn.lt
    have hBt2 := hL.btl
    have HPl : Hid (∀ k, (Value.slice po ys.length pc).ownBlock = some k → k < W.heap.size) := fun k hk => (hL.sc.pls.lt k hk).2
    have HQi : Hid (∀ k, itQ Bs Bb Be (liveA bo xs) k → k < W.heap.size) := itQ_lt hL.it
    have HDs : Hid (∀ D ∈ Ds, D < W.heap.size) := fun D hD => lt_heap (hL.marks D hD).2
    clear hL ht ga
    go_wp2
    obtain ⟨Bi, hBi⟩ : ∃ Bi, Bi = W.heap.size := ⟨_, rfl⟩
    rw [← hBi] at HL hWs hBtW HDs HPl HQi ⊢
    clear hBi ct
    generalize W.alloc (.cells #[.int .i64 0] 3) = W1 at *
    have HIt := hide HL.out.1.it
    have HL2 : Hid (∀ k, itQ Bs Bb Be (liveA bo xs) k → k < W1.heap.size) := itQ_lt HIt.out
    have hwW1 : w.heap.size ≤ W1.heap.size := HL.out.1.sc.gr.size
    have HOw : Hid (OwnFrom W1.heap.size (fun (_ : Unit) W => LpS w W Bw Bt Bs Bb Be yo po bo yc pc bc n xs E S ys Ds)) := LpS.own_from hwW1 HL2.out (fun D hD => by have := HDs.out D hD; omega)
    refine (wpIn_wide (n := 6)).1 (wpIn_range_V (w := W1) rfl (by decide) (gf := 59) (lb := #[.pointer (some ⟨Bs, 0, none⟩), .pointer (some ⟨Bb, 0, none⟩), .pointer (some ⟨Be, 0, none⟩)]) rfl trivial (enters_of Tryd.func59 (by kernel_rfl) rfl)
      (encs := El.enc) (Kp := Keeps (itQ Bs Bb Be (liveA bo xs))) (V := ElV W1.heap.size E S xs) (S := fun zs => frs zs = rowF E S xs)
      (fun W hW => row_seqV _ 5 (by decide) Bs Bb Be bo n bc xs E S (fun _ _ h => h) W1.heap.size W (HIt.out.grown hW) hW.size)
      (fun h k => h.trans k) (fun W l o hl => Keeps.putObj W l o (fun hq => by have := HL2.out l hq; omega)) (fun W W' _ hg => Keeps.of hg (fun _ e => by cases e)) (fun _ => rfl)
      (fun pre => ElV.own_from _ _ _ _ _ pre)
      (fun pre W => (LpS w W Bw Bt Bs Bb Be yo po bo yc pc bc n xs E S ys Ds ∧ Boxed W Bi 3 (.int .i64 (pre.length : Int))) ∧ W1.heap.size ≤ W.heap.size)
      (fun c pre W => (c = .exit 2 ∧ Ds.length = 0) ∧ (LpS w W Bw Bt Bs Bb Be yo po bo yc pc bc n xs E S ys Ds ∧ Boxed W Bi 3 (.int .i64 3)) ∧ W1.heap.size ≤ W.heap.size)
      (fun s W W' row h hg hr => ⟨⟨HOw.out () W W' row h.1.1 hg hr, heap_own_from h.1.2 hg hr (Or.inr rfl)⟩, Nat.le_trans h.2 hg.size⟩)
      (fun c s W W' row h hg hr => ⟨h.1, ⟨HOw.out () W W' row h.2.1.1 hg hr, heap_own_from h.2.1.2 hg hr (Or.inr rfl)⟩, Nat.le_trans h.2.2 hg.size⟩) ⟨⟨HL.out.1, HL.out.2⟩, Nat.le_refl _⟩
      (fun x a' W => ∃ F, a' = { tmps := #[(u 0), (u 1), (u 2), (u 3), (u 4), (u 5), Value.pointer (some ⟨w.heap.size, 0, none⟩), (u 7), (u 8), (u 9), Value.func (Fn.func 59) #[] #[Value.pointer (some ⟨Bs, 0, none⟩), Value.pointer (some ⟨Bb, 0, none⟩), Value.pointer (some ⟨Be, 0, none⟩)], (u 11), Value.pointer (some ⟨Bw, 0, none⟩), Value.pointer (some ⟨Bw + 1, 0, none⟩), (u 14), Value.pointer (some ⟨Bt, 0, none⟩), Value.pointer (some ⟨Bi, 0, none⟩), .int .i64 (x.at_ : Int), .pointer (some ⟨F, 0, none⟩), (u 19), (u 20), (u 21), (u 22), (u 23), (u 24), (u 25), (u 26), (u 27), (u 28), (u 29), (u 30), (u 31), (u 32), (u 33), (u 34), (u 35), (u 36), (u 37), (u 38), (u 39), (u 40), (u 41), (u 42), (u 43), (u 44), (u 45), (u 46), (u 47), (u 48), (u 49), (u 50), (u 51), (u 52), (u 53), (u 54), (u 55), (u 56), (u 57), (u 58), (u 59), (u 60), (u 61), (u 62), (u 63), .int .i64 (Ds.length : Int), .bool true, (u 66), (u 67), Value.func (Fn.func 59) #[] #[Value.pointer (some ⟨Bs, 0, none⟩), Value.pointer (some ⟨Bb, 0, none⟩), Value.pointer (some ⟨Be, 0, none⟩)], .int .i64 (x.at_ : Int), frV x.f.e x.f.s x.v, (u 71), (u 72), (u 73), (u 74), (u 75), (u 76), (u 77), (u 78), (u 79), (u 80), (u 81), (u 82), (u 83), (u 84), (u 85), (u 86), (u 87), (u 88), (u 89), (u 90), (u 91), (u 92), (u 93), (u 94), (u 95), (u 96), (u 97), (u 98), (u 99), (u 100), (u 101), (u 102), (u 103), (u 104), (u 105), (u 106), (u 107), (u 108)], defers := [] } ∧ W.heap[F]? = some (.cells [Value.int .u64 x.f.e, .int .u64 x.f.s, x.v].toArray 25 (0, 0)) ∧ W1.heap.size ≤ F)
      (fun x a' W W' row h hg hr => by obtain ⟨F, ha, hF, hl⟩ := h; exact ⟨F, ha, heap_own_from hF hg hr (Or.inr rfl), hl⟩)
      ?assign ?body ?done ?stop)
    case assign =>
      intro l pre x W K hI hV hK
      have hsz : W1.heap.size ≤ W.heap.size := hI.2
      obtain ⟨vo, vc, hvf⟩ := own_form hV.lies.own
      simp only [El.enc, frV]
      rw [hvf]
      gi_wp2
      rw [← hvf]
      exact hK _ _ (World.grownBy_alloc W _ none) ⟨_, rfl, heap_alloc_new W _, hsz⟩
    case body =>
      rintro l pre ⟨at_, ⟨e, s, b⟩, v, lo, hi_⟩ a' W ⟨⟨hL, hi⟩, hsz⟩ hV ⟨F, rfl, hF, hFl⟩
      obtain ⟨vo, vc, hvf⟩ := own_form hV.lies.own
      simp only at hvf
      subst hvf
      have hpre : frs pre ++ [⟨e, s, b⟩] <+: frs ys := by rw [HYs.out]; exact hV.row.pre
      obtain ⟨j, hj⟩ : ∃ j, j = pre.length := ⟨_, rfl⟩
      have hjy : (frs ys)[j]? = some ⟨e, s, b⟩ := by
        obtain ⟨r, hr⟩ := hpre
        rw [← hr, hj, ← frs_length, List.append_assoc, List.getElem?_append_right (Nat.le_refl _)]
        simp
      have htk : (frs ys).take j = frs pre := by
        obtain ⟨r, hr⟩ := hpre
        rw [← hr, hj, ← frs_length, List.append_assoc, List.take_left]
      have hjl : j < ys.length := by rw [← frs_length]; exact (List.getElem?_eq_some_iff.1 hjy).1
      obtain ⟨ya, yca, eqy, hyR, -⟩ := hL.sc.fs.read
      cases eqy
      obtain ⟨pa, pca, eqp, hpR, hpl⟩ := own_ints hL.sc.pls
      cases eqp
      obtain ⟨yg, rfl, hyc⟩ := hyR j ys[j] (by simp [hjl])
      obtain ⟨pg, rfl, hpc⟩ := hpR j (fend ((frs ys).take j)) (by rw [plc_at _ _ (by rw [frs_length]; exact hjl)])
      have hyf : ys[j].f = ⟨e, s, b⟩ := by
        have := frs_at (l := ys) (j := j) (x := ys[j]) (by simp [hjl])
        rw [hjy] at this
        simpa using this.symm
      obtain ⟨uo, uc, huv, hua⟩ := hyc.body
      rw [hyf] at huv hua
      simp only at huv hua
      have y0 := hyc.c0
      have y1 := hyc.c1
      have y2 := hyc.c2
      rw [huv] at y2
      rw [hyf] at y0 y1
      simp only at y0 y1
      have hat := hV.place
      simp only at hat
      rw [htk, ← hat] at hpc
      have q3 := hpc
      rw [← hj] at hi
      have q0 := hi.cell
      have f0 := hi.frozen
      have q1 := hL.sc.want.cell
      have q2 := hL.sc.pla.cell
      have qt := hL.tn.cell
      obtain ⟨d0, d1, d2⟩ := box_cells hF
      obtain ⟨wo, wc, hwv, g1, g2, g3, hva, g5, g6⟩ := own_at hV.lies.own
      simp only at hva hwv
      cases hwv
      have h32 : b.length ≤ 32 := hV.short
      have HSm : Hid (Calls Tryd.prog 23 #[.agg #[.int .u64 e, .int .u64 s, .slice vo b.length vc], .agg #[.int .u64 e, .int .u64 s, .slice uo b.length uc]] W.drew fun r w' => r = .returned (.bool true) ∧ W.drew.grownBy w' none) := sameFr e s vo uo _ vc uc b W.drew rfl hva hua (by omega)
      have hji : (j : Int) < (ys.length : Int) := by omega
      have hj0 : (0 : Int) ≤ (j : Int) := by omega
      have hjm : j ≤ 1099511627776 := by omega
      have hb1 : decide ((ys.length : Int) ≤ (j : Int)) = false := decide_eq_false (by omega)
      have hb2 : decide ((j : Int) ≥ (ys.length : Int)) = false := decide_eq_false (by omega)
      have hb3 : decide (ys.length ≤ j) = false := decide_eq_false (by omega)
      have HX := hide (And.intro hL (And.intro hi (And.intro hj hpre)))
      have HV := hide hV
      simp only [frV]
      clear hL hi hV hF hyR hpR hpl hyc huv hua hva g1 g2 g3 g5 g6 hpre htk hjy hyf hpc hat hj
      gi_wp2_with fail
      refine wpIn_round_held (S := (fun w' => w'.cell? ⟨Bi, 0, none⟩ = some (.int .i64 (j : Int)) ∧ w'.cell? ⟨Bw, 0, none⟩ = some (.slice (some ⟨yg, 0, none⟩) ys.length yc) ∧ w'.cell? ⟨Bw + 1, 0, none⟩ = some (.slice (some ⟨pg, 0, none⟩) ys.length pc) ∧ w'.cell? ⟨pg, j, none⟩ = some (.int .i64 (at_ : Int)) ∧ w'.cell? ⟨F, 0, none⟩ = some (.int .u64 e) ∧ w'.cell? ⟨F, 1, none⟩ = some (.int .u64 s) ∧ w'.cell? ⟨F, 2, none⟩ = some (.slice vo b.length vc) ∧ w'.cell? ⟨yg, j * 3, none⟩ = some (.int .u64 e) ∧ w'.cell? ⟨yg, j * 3 + 1, none⟩ = some (.int .u64 s) ∧ w'.cell? ⟨yg, j * 3 + 2, none⟩ = some (.slice uo b.length uc))) (by kernel_rfl) (by kernel_rfl) (by rintro ⟨_, _, h⟩; exact h) ?_ (fun hHeld => ?_)
      · (exact ⟨q0, q1, q2, q3, d0, d1, d2, y0, y1, y2⟩)
      refine wpAnyH_take (i := 0) (oi := { dst := some 71, op := Go.Op.load 3 (Go.Operand.tmp 16), type := 3, pos := "law.go:78", after := #[], guard := none }) (v := ?_) rfl (by kernel_rfl) (by kernel_rfl) (by kernel_rfl) (fun _ _ _ h => h) (Or.inl ⟨by rfl, ?_⟩) (by assumption) ?_
      rotate_left
      · (intro w hSw; (try dsimp only at hSw); (go_simp <;> with_reducible rfl))
      try simp only [Act.put, List.setIfInBounds_toArray, List.set_cons_zero, List.set_cons_succ]
      refine wpAnyH_take (i := 1) (oi := { dst := some 72, op := Go.Op.load 41 (Go.Operand.tmp 12), type := 41, pos := "law.go:78", after := #[], guard := none }) (v := ?_) rfl (by kernel_rfl) (by kernel_rfl) (by kernel_rfl) (fun _ _ _ h => h) (Or.inl ⟨by rfl, ?_⟩) (by assumption) ?_
      rotate_left
      · (intro w hSw; (try dsimp only at hSw); (go_simp <;> with_reducible rfl))
      try simp only [Act.put, List.setIfInBounds_toArray, List.set_cons_zero, List.set_cons_succ]
      refine wpAnyH_take (i := 2) (oi := { dst := some 73, op := Go.Op.call { callee := Go.Callee.builtin Go.Builtin.len, args := #[Go.Operand.tmp 72], argTypes := #[41] }, type := 3, pos := "law.go:78", after := #[{ on := 1, ground := Go.Ground.data }], guard := none }) (v := ?_) rfl (by kernel_rfl) (by kernel_rfl) (by kernel_rfl) (fun _ _ _ h => h) (Or.inl ⟨by rfl, ?_⟩) (by assumption) ?_
      rotate_left
      · (intro w hSw; (try dsimp only at hSw); (go_simp <;> with_reducible rfl))
      try simp only [Act.put, List.setIfInBounds_toArray, List.set_cons_zero, List.set_cons_succ]
      refine wpAnyH_take (i := 3) (oi := { dst := some 74, op := Go.Op.binOp Go.BinOp.geq 3 (Go.Operand.tmp 71) (Go.Operand.tmp 73) 3, type := 4, pos := "law.go:78", after := #[{ on := 0, ground := Go.Ground.data }, { on := 2, ground := Go.Ground.data }], guard := none }) (v := ?_) rfl (by kernel_rfl) (by kernel_rfl) (by kernel_rfl) (fun _ _ _ h => h) (Or.inl ⟨by rfl, ?_⟩) (by assumption) ?_
      rotate_left
      · (intro w hSw; (try dsimp only at hSw); (go_simp <;> with_reducible rfl))
      try simp only [Act.put, List.setIfInBounds_toArray, List.set_cons_zero, List.set_cons_succ]
      refine wpAnyH_take (i := 4) (oi := { dst := some 75, op := Go.Op.move (Go.Operand.tmp 74), type := 4, pos := "law.go:78", after := #[{ on := 3, ground := Go.Ground.data }], guard := none }) (v := ?_) rfl (by kernel_rfl) (by kernel_rfl) (by kernel_rfl) (fun _ _ _ h => h) (Or.inl ⟨by rfl, ?_⟩) (by assumption) ?_
      rotate_left
      · (intro w hSw; (try dsimp only at hSw); (go_simp <;> with_reducible rfl))
      try simp only [Act.put, List.setIfInBounds_toArray, List.set_cons_zero, List.set_cons_succ]
      refine wpAnyH_take (i := 5) (oi := { dst := some 76, op := Go.Op.move (Go.Operand.tmp 17), type := 3, pos := "law.go:78", after := #[{ on := 4, ground := Go.Ground.guard }], guard := some (4, false) }) (v := ?_) rfl (by kernel_rfl) (by kernel_rfl) (by kernel_rfl) (fun _ _ _ h => h) (Or.inl ⟨by rfl, ?_⟩) (by assumption) ?_
      rotate_left
      · (intro w hSw; (try dsimp only at hSw); (go_simp <;> with_reducible rfl))
      try simp only [Act.put, List.setIfInBounds_toArray, List.set_cons_zero, List.set_cons_succ]
      refine wpAnyH_take (i := 6) (oi := { dst := some 77, op := Go.Op.load 47 (Go.Operand.tmp 13), type := 47, pos := "law.go:78", after := #[{ on := 4, ground := Go.Ground.guard }], guard := some (4, false) }) (v := ?_) rfl (by kernel_rfl) (by kernel_rfl) (by kernel_rfl) (fun _ _ _ h => h) (Or.inl ⟨by rfl, ?_⟩) (by assumption) ?_
      rotate_left
      · (intro w hSw; (try dsimp only at hSw); (go_simp <;> with_reducible rfl))
      try simp only [Act.put, List.setIfInBounds_toArray, List.set_cons_zero, List.set_cons_succ]
      refine wpAnyH_take (i := 7) (oi := { dst := some 78, op := Go.Op.load 3 (Go.Operand.tmp 16), type := 3, pos := "law.go:78", after := #[{ on := 4, ground := Go.Ground.guard }], guard := some (4, false) }) (v := ?_) rfl (by kernel_rfl) (by kernel_rfl) (by kernel_rfl) (fun _ _ _ h => h) (Or.inl ⟨by rfl, ?_⟩) (by assumption) ?_
      rotate_left
      · (intro w hSw; (try dsimp only at hSw); (go_simp <;> with_reducible rfl))
      try simp only [Act.put, List.setIfInBounds_toArray, List.set_cons_zero, List.set_cons_succ]
      refine wpAnyH_take (i := 8) (oi := { dst := some 79, op := Go.Op.indexAddr 47 (Go.Operand.tmp 77) (Go.Operand.tmp 78), type := 0, pos := "law.go:78", after := #[{ on := 6, ground := Go.Ground.data }, { on := 7, ground := Go.Ground.data }, { on := 4, ground := Go.Ground.guard }], guard := some (4, false) }) (v := ?_) rfl (by kernel_rfl) (by kernel_rfl) (by kernel_rfl) (fun _ _ _ h => h) (Or.inl ⟨by rfl, ?_⟩) (by assumption) ?_
      rotate_left
      · (intro w hSw; (try dsimp only at hSw); (go_simp <;> with_reducible rfl))
      try simp only [Act.put, List.setIfInBounds_toArray, List.set_cons_zero, List.set_cons_succ]
      refine wpAnyH_take (i := 9) (oi := { dst := some 80, op := Go.Op.load 3 (Go.Operand.tmp 79), type := 3, pos := "law.go:78", after := #[{ on := 8, ground := Go.Ground.data }, { on := 4, ground := Go.Ground.guard }], guard := some (4, false) }) (v := ?_) rfl (by kernel_rfl) (by kernel_rfl) (by kernel_rfl) (fun _ _ _ h => h) (Or.inl ⟨by rfl, ?_⟩) (by assumption) ?_
      rotate_left
      · (intro w hSw; (try dsimp only at hSw); (go_simp <;> with_reducible rfl))
      try simp only [Act.put, List.setIfInBounds_toArray, List.set_cons_zero, List.set_cons_succ]
      refine wpAnyH_take (i := 10) (oi := { dst := some 81, op := Go.Op.binOp Go.BinOp.neq 3 (Go.Operand.tmp 76) (Go.Operand.tmp 80) 3, type := 4, pos := "law.go:78", after := #[{ on := 5, ground := Go.Ground.data }, { on := 9, ground := Go.Ground.data }, { on := 4, ground := Go.Ground.guard }], guard := some (4, false) }) (v := ?_) rfl (by kernel_rfl) (by kernel_rfl) (by kernel_rfl) (fun _ _ _ h => h) (Or.inl ⟨by rfl, ?_⟩) (by assumption) ?_
      rotate_left
      · (intro w hSw; (try dsimp only at hSw); (go_simp <;> with_reducible rfl))
      try simp only [Act.put, List.setIfInBounds_toArray, List.set_cons_zero, List.set_cons_succ]
      refine wpAnyH_take (i := 11) (oi := { dst := some 82, op := Go.Op.pick (Go.Operand.tmp 75) (Go.Operand.const (Go.Value.bool true)) (Go.Operand.tmp 81), type := 4, pos := "law.go:78", after := #[{ on := 4, ground := Go.Ground.data }, { on := 10, ground := Go.Ground.data }], guard := none }) (v := ?_) rfl (by kernel_rfl) (by kernel_rfl) (by kernel_rfl) (fun _ _ _ h => h) (Or.inl ⟨by rfl, ?_⟩) (by assumption) ?_
      rotate_left
      · (intro w hSw; (try dsimp only at hSw); (go_simp <;> with_reducible rfl))
      try simp only [Act.put, List.setIfInBounds_toArray, List.set_cons_zero, List.set_cons_succ]
      refine wpAnyH_take (i := 12) (oi := { dst := some 83, op := Go.Op.move (Go.Operand.tmp 82), type := 4, pos := "law.go:78", after := #[{ on := 11, ground := Go.Ground.data }, { on := 4, ground := Go.Ground.chain }], guard := none }) (v := ?_) rfl (by kernel_rfl) (by kernel_rfl) (by kernel_rfl) (fun _ _ _ h => h) (Or.inl ⟨by rfl, ?_⟩) (by assumption) ?_
      rotate_left
      · (intro w hSw; (try dsimp only at hSw); (go_simp <;> with_reducible rfl))
      try simp only [Act.put, List.setIfInBounds_toArray, List.set_cons_zero, List.set_cons_succ]
      refine wpAnyH_take (i := 13) (oi := { dst := some 84, op := Go.Op.load 25 (Go.Operand.tmp 18), type := 25, pos := "law.go:78", after := #[{ on := 12, ground := Go.Ground.guard }], guard := some (12, false) }) (v := ?_) rfl (by kernel_rfl) (by kernel_rfl) (by kernel_rfl) (fun _ _ _ h => h) (Or.inl ⟨by rfl, ?_⟩) (by assumption) ?_
      rotate_left
      · (intro w hSw; (try dsimp only at hSw); (go_simp <;> with_reducible rfl))
      try simp only [Act.put, List.setIfInBounds_toArray, List.set_cons_zero, List.set_cons_succ]
      refine wpAnyH_take (i := 14) (oi := { dst := some 85, op := Go.Op.load 41 (Go.Operand.tmp 12), type := 41, pos := "law.go:78", after := #[{ on := 12, ground := Go.Ground.guard }], guard := some (12, false) }) (v := ?_) rfl (by kernel_rfl) (by kernel_rfl) (by kernel_rfl) (fun _ _ _ h => h) (Or.inl ⟨by rfl, ?_⟩) (by assumption) ?_
      rotate_left
      · (intro w hSw; (try dsimp only at hSw); (go_simp <;> with_reducible rfl))
      try simp only [Act.put, List.setIfInBounds_toArray, List.set_cons_zero, List.set_cons_succ]
      refine wpAnyH_take (i := 15) (oi := { dst := some 86, op := Go.Op.load 3 (Go.Operand.tmp 16), type := 3, pos := "law.go:78", after := #[{ on := 12, ground := Go.Ground.guard }], guard := some (12, false) }) (v := ?_) rfl (by kernel_rfl) (by kernel_rfl) (by kernel_rfl) (fun _ _ _ h => h) (Or.inl ⟨by rfl, ?_⟩) (by assumption) ?_
      rotate_left
      · (intro w hSw; (try dsimp only at hSw); (go_simp <;> with_reducible rfl))
      try simp only [Act.put, List.setIfInBounds_toArray, List.set_cons_zero, List.set_cons_succ]
      refine wpAnyH_take (i := 16) (oi := { dst := some 87, op := Go.Op.indexAddr 41 (Go.Operand.tmp 85) (Go.Operand.tmp 86), type := 0, pos := "law.go:78", after := #[{ on := 14, ground := Go.Ground.data }, { on := 15, ground := Go.Ground.data }, { on := 12, ground := Go.Ground.guard }], guard := some (12, false) }) (v := ?_) rfl (by kernel_rfl) (by kernel_rfl) (by kernel_rfl) (fun _ _ _ h => h) (Or.inl ⟨by rfl, ?_⟩) (by assumption) ?_
      rotate_left
      · (intro w hSw; (try dsimp only at hSw); (go_simp <;> with_reducible rfl))
      try simp only [Act.put, List.setIfInBounds_toArray, List.set_cons_zero, List.set_cons_succ]
      refine wpAnyH_take (i := 17) (oi := { dst := some 88, op := Go.Op.load 25 (Go.Operand.tmp 87), type := 25, pos := "law.go:78", after := #[{ on := 16, ground := Go.Ground.data }, { on := 12, ground := Go.Ground.guard }], guard := some (12, false) }) (v := ?_) rfl (by kernel_rfl) (by kernel_rfl) (by kernel_rfl) (fun _ _ _ h => h) (Or.inl ⟨by rfl, ?_⟩) (by assumption) ?_
      rotate_left
      · (intro w hSw; (try dsimp only at hSw); (go_simp <;> with_reducible rfl))
      try simp only [Act.put, List.setIfInBounds_toArray, List.set_cons_zero, List.set_cons_succ]
      refine wpAnyH_ready (rs := [18]) (by kernel_rfl) (by simp) ?_
      refine AllReadyH.cons (o := { dst := some 89, op := Go.Op.call { callee := Go.Callee.value (Go.Operand.func 23), args := #[Go.Operand.tmp 84, Go.Operand.tmp 88], argTypes := #[25, 25] }, type := 4, pos := "law.go:78", after := #[{ on := 13, ground := Go.Ground.data }, { on := 17, ground := Go.Ground.data }, { on := 12, ground := Go.Ground.chain }, { on := 12, ground := Go.Ground.guard }], guard := some (12, false) }) rfl (fun K hK => ?_) ?_
      rotate_left
      · exact AllReadyH.nil
      go_simp
      refine HSm.out.mono ?_
      rintro r wB ⟨rfl, hgB⟩
      go_wp2_with fail
      refine hK.out _ _ ?_ (fun hHeld => ?_)
      · ((try dsimp only); exact ⟨hgB.cell q0 (by simp), hgB.cell q1 (by simp), hgB.cell q2 (by simp), hgB.cell q3 (by simp), hgB.cell d0 (by simp), hgB.cell d1 (by simp), hgB.cell d2 (by simp), hgB.cell y0 (by simp), hgB.cell y1 (by simp), hgB.cell y2 (by simp)⟩)
      clear hK K
      try simp only [Act.put, List.setIfInBounds_toArray, List.set_cons_zero, List.set_cons_succ]
      refine wpAnyH_take (i := 19) (oi := { dst := some 90, op := Go.Op.unOp Go.UnOp.not 4 (Go.Operand.tmp 89), type := 4, pos := "law.go:78", after := #[{ on := 18, ground := Go.Ground.data }, { on := 12, ground := Go.Ground.guard }], guard := some (12, false) }) (v := ?_) rfl (by kernel_rfl) (by kernel_rfl) (by kernel_rfl) (fun _ _ _ h => h) (Or.inl ⟨by rfl, ?_⟩) (by assumption) ?_
      rotate_left
      · (intro w hSw; (try dsimp only at hSw); (go_simp <;> with_reducible rfl))
      try simp only [Act.put, List.setIfInBounds_toArray, List.set_cons_zero, List.set_cons_succ]
      refine wpAnyH_take (i := 20) (oi := { dst := some 91, op := Go.Op.pick (Go.Operand.tmp 83) (Go.Operand.const (Go.Value.bool true)) (Go.Operand.tmp 90), type := 4, pos := "law.go:78", after := #[{ on := 12, ground := Go.Ground.data }, { on := 19, ground := Go.Ground.data }], guard := none }) (v := ?_) rfl (by kernel_rfl) (by kernel_rfl) (by kernel_rfl) (fun _ _ _ h => h) (Or.inl ⟨by rfl, ?_⟩) (by assumption) ?_
      rotate_left
      · (intro w hSw; (try dsimp only at hSw); (go_simp <;> with_reducible rfl))
      try simp only [Act.put, List.setIfInBounds_toArray, List.set_cons_zero, List.set_cons_succ]
      refine wpAnyH_done (by kernel_rfl) ?_ _
      have hgW : W.grownBy wB none := grown_trans (grown_drew W none) hgB
      obtain ⟨hL, hi, hj, hpre⟩ := HX.out
      have hLB := hL.grown hgW
      have hiB : Boxed wB Bi 3 (.int .i64 (j : Int)) := (hgW.block _ hi.lt (by simp)).trans hi
      have cB := hiB.cell
      have fB := hiB.frozen
      have tB := hLB.tn.cell
      have hs := grown_setCell wB Bi 0 (.int .i64 ((j : Int) + 1))
      have hiC := hiB.set (.int .i64 ((j : Int) + 1))
      have hbw2 : w.heap.size < Bw := by omega
      have hLC := hLB.put hiB (.int .i64 ((j : Int) + 1)) (by omega) hbw2 (by omega) (fun k hk => by have := HPl.out k hk; omega) (fun k hk => by have := HQi.out k hk; omega)
      have hK1 : KeepsOthers W (wB.setCell ⟨Bi, 0, none⟩ (.int .i64 ((j : Int) + 1))) := (KeepsOthers.of_grownBy hgW (fun j o hj => by cases hj)).trans (KeepsOthers.setCell _ _ _)
      have hK2 : Keeps (itQ Bs Bb Be (liveA bo xs)) W (wB.setCell ⟨Bi, 0, none⟩ (.int .i64 ((j : Int) + 1))) := (Keeps.of hgW (fun _ e => by cases e)).trans (Keeps.of hs (fun k hk hk2 => by cases hk; have := HQi.out _ hk2; omega))
      have hszC : W1.heap.size ≤ (wB.setCell ⟨Bi, 0, none⟩ (.int .i64 ((j : Int) + 1))).heap.size := Nat.le_trans hsz hK1.size
      have hlen : ((pre ++ [(⟨at_, ⟨e, s, b⟩, .slice vo b.length vc, lo, hi_⟩ : El)]).length : Int) = (j : Int) + 1 := by rw [hj]; simp
      have HY := hide (And.intro hLC (And.intro hiC (And.intro hK1 (And.intro hK2 (And.intro hszC hlen)))))
      have hdl : Ds.length = 0 ∨ Ds.length = 1 := by have := HT.out; have := hL.le; omega
      clear hL hi hj hpre hLB hiB hs hiC hLC hK1 hK2 hszC hlen HX HSm hHeld hgB hgW q0 f0 q1 q2 q3 qt d0 d1 d2 y0 y1 y2
      rcases hdl with hd | hd
      · have HD := hide hd
        rw [hd] at tB
        clear hd
        by_cases h3 : (j : Int) + 1 = 3
        · have H3 := hide h3
          have hj2 : (j : Int) = 2 := by omega
          have HJ := hide hj2
          have hb4 : ((j : Int) + 1 == 3) = true := by rw [h3]; rfl
          have hb5 : decide ((j : Int) + 1 = 3) = true := by simp [h3]
          clear h3 hj2
          gi_wp2
          obtain ⟨hLC, hiC, hK1, hK2, hszC, hlen⟩ := HY.out
          exact ⟨hK1.from _, ⟨rfl, HD.out⟩, ⟨hLC, by rw [H3.out] at hiC ⊢; exact hiC⟩, hszC⟩
        · have hb4 : ((j : Int) + 1 == 3) = false := by simpa using h3
          have hb5 : decide ((j : Int) + 1 = 3) = false := by simpa using h3
          clear h3
          gi_wp2
          obtain ⟨hLC, hiC, hK1, hK2, hszC, hlen⟩ := HY.out
          exact ⟨hK1.from _, hK2, ⟨hLC, by rw [hlen]; exact hiC⟩, hszC⟩
      · rw [hd] at tB
        clear hd
        gi_wp2
        obtain ⟨hLC, hiC, hK1, hK2, hszC, hlen⟩ := HY.out
        exact ⟨hK1.from _, hK2, ⟨hLC, by rw [hlen]; exact hiC⟩, hszC⟩
    case done =>
      rintro D zs W hD hzs ⟨⟨hL, hi⟩, hsz⟩ hK
      have hzl : zs.length = ys.length := by rw [← frs_length, ← frs_length, hzs, HYs.out]
      rw [hzl] at hi
      have ct := hL.tn.cell
      have ci := hi.cell
      have cw := hL.sc.want.cell
      have h2 : ∀ D' ∈ Ds, D' < D := fun D' hD' => by have := HDs.out D' hD'; omega
      have hTu := fun u hu => hL.turn D u hu (by omega) h2 hK (by have := HT.out; have := hL.le; omega)
      have HTu := hide hTu
      have hDl : Ds.length = 0 ∨ Ds.length = 1 := by have := HT.out; have := hL.le; omega
      clear hTu hK hzs hzl hL hi h2
      rcases hDl with hd | hd
      all_goals
        have HD := hide hd
        rw [hd] at ct
        clear hd
        go_wp2
        refine ⟨scA_of (Ds := D :: Ds) rfl (HTu.out _ (by rw [List.length_cons, HD.out]; rfl)), ?_⟩
        show 2 - (dfs (D :: Ds)).length < 2 - (dfs Ds).length
        rw [dfs_length, dfs_length, List.length_cons, HD.out]
        decide
    case stop =>
      rintro D c pre W hD ⟨⟨rfl, hd⟩, ⟨hL, hi⟩, hsz⟩ hK
      have ct := hL.tn.cell
      have ci := hi.cell
      have cw := hL.sc.want.cell
      have h2 : ∀ D' ∈ Ds, D' < D := fun D' hD' => by have := HDs.out D' hD'; omega
      have hTu := fun u hu => hL.turn D u hu (by omega) h2 hK (by omega)
      have HTu := hide hTu
      have HD := hide hd
      rw [hd] at ct
      clear hTu hK hL hi h2 hd
      refine wpIn_wide.2 ?_
      go_wp2
      refine ⟨scA_of (Ds := D :: Ds) rfl (HTu.out _ (by rw [List.length_cons, HD.out]; rfl)), ?_⟩
      show 2 - (dfs (D :: Ds)).length < 2 - (dfs Ds).length
      rw [dfs_length, dfs_length, List.length_cons, HD.out]
      decide
end Go.Proofs.YtoeehajdmdmemaaDoor
