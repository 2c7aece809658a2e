/- The contracts of rowOf, Each and Scan. -/
import Derived.Test.YtoeehajdmdmemabDoorFi
namespace Go.Proofs.YtoeehajdmdmemabDoor
open Go.RowKit Go.Shelf
attribute [local go_sem] Oper.semAt_some

/-- Bytes that are handed in: where they lie, how many, the table beside them. -/
structure Src (W : World) (ao : Option Addr) (n cap : Nat) (xs : List Int) : Prop where
  lies : At W ao xs
  len : xs.length = n
  nil : ao = none → n = 0 ∧ cap = 0
  fits : n ≤ cap
  byt : Byt xs
  sm : n ≤ 140737488355328
  tab : Tab W
theorem Src.grown {W W' : World} {ao : Option Addr} {n cap : Nat} {xs : List Int} (h : Src W ao n cap xs) (hg : W.grownBy W' none) : Src W' ao n cap xs :=
  ⟨h.lies.kept hg (fun _ _ e => by cases e), h.len, h.nil, h.fits, h.byt, h.sm, h.tab.grown hg⟩

/-- The function value of the iterator. -/
def itV (Bs Bb Be : Nat) : Value := .func (.func 31) #[] #[.pointer (some ⟨Bs, 0, none⟩), .pointer (some ⟨Bb, 0, none⟩), .pointer (some ⟨Be, 0, none⟩)]

set_option maxHeartbeats 400000 in
theorem rowOf_any (ao : Option Addr) (n cap : Nat) (xs : List Int) (E S : Int) (w : World) (h : Src w ao n cap xs) (hS0 : 0 ≤ S) (hS1 : S < 18446744073709551616) :
    Calls Tryd.prog 13 #[.slice ao n cap, .int .u64 E, .int .u64 S] w fun e w' => ∃ Bs Bb Be, e = .returned (itV Bs Bb Be) ∧ ItF w' Bs Bb Be ao n cap xs E S ∧ w.heap.size ≤ Bs ∧ w.heap.size ≤ Bb ∧ w.heap.size ≤ Be ∧ w.grownBy w' none := by
  unfold itV
  have H := hide h
  clear h
  go_enter Tryd.func13, Tryd.ntmps13
  go_wp2
  go_ret
  have g1 := World.grownBy_alloc w (.cells #[.slice ao n cap] 22) none
  have g2 := World.grownBy_alloc (w.alloc (.cells #[.slice ao n cap] 22)) (.cells #[.int .u64 E] 23) none
  have g3 := World.grownBy_alloc ((w.alloc (.cells #[.slice ao n cap] 22)).alloc (.cells #[.int .u64 E] 23)) (.cells #[.int .u64 S] 23) none
  have b1 := Boxed.new w 22 (.slice ao n cap)
  have b2 := Boxed.new (w.alloc (.cells #[.slice ao n cap] 22)) 23 (.int .u64 E)
  have b3 := Boxed.new ((w.alloc (.cells #[.slice ao n cap] 22)).alloc (.cells #[.int .u64 E] 23)) 23 (.int .u64 S)
  have b1' := (g3.block _ (by simp; omega) (by simp)).trans ((g2.block _ (by simp) (by simp)).trans b1)
  have b2' := (g3.block _ (by simp) (by simp)).trans b2
  have hs := H.out.grown (grown_trans g1 (grown_trans g2 g3))
  refine ⟨_, _, _, rfl, ⟨?_, b1', ?_, hs.lies, hs.len, hs.nil, hs.fits, hs.byt, hs.sm, hs.tab, hS0, hS1⟩, ?_, ?_, ?_, grown_trans g1 (grown_trans g2 g3)⟩
  · simpa using b3
  · rw [World.size_alloc] at b2'; exact b2'
  · omega
  · omega
  · omega

theorem Tryd.info34 : (Tryd.prog.info? 34).map (fun i => (i.zero, i.size, i.bytes)) = some (some (.agg #[.int .u64 0, .int .u64 0, .slice none 0 0]), 3, 40) := by kernel_rfl

/-- Frames as they lie in cells. -/
def fcl (l : List El) : List Value := l.flatMap fun x => [.int .u64 x.f.e, .int .u64 x.f.s, x.v]
theorem fcl_snoc (l : List El) (x : El) : fcl (l ++ [x]) = fcl l ++ [.int .u64 x.f.e, .int .u64 x.f.s, x.v] := by simp [fcl]
theorem fcl_length : ∀ (l : List El), (fcl l).length = l.length * 3
  | [] => rfl
  | x :: l => by have := fcl_length l; simp only [fcl, List.flatMap_cons, List.length_append, List.length_cons, List.length_nil] at this ⊢; omega
theorem fcl_at : ∀ (l : List El) (i : Nat) (x : El), l[i]? = some x → (fcl l)[3 * i]? = some (.int .u64 x.f.e) ∧ (fcl l)[3 * i + 1]? = some (.int .u64 x.f.s) ∧ (fcl l)[3 * i + 2]? = some x.v
  | [], i, x, h => by simp at h
  | y :: l, 0, x, h => by simp at h; subst h; exact ⟨rfl, rfl, rfl⟩
  | y :: l, i + 1, x, h => by
    have := fcl_at l i x (by simpa using h)
    have e : fcl (y :: l) = .int .u64 y.f.e :: .int .u64 y.f.s :: y.v :: fcl l := rfl
    rw [e, show 3 * (i + 1) = 3 * i + 1 + 1 + 1 by omega]
    simpa [Nat.add_assoc] using this

/-- A list of frames: its cells, the bodies, each in a block of its own. -/
structure FsAt (w : World) (base : Nat) (v : Value) (ys : List El) : Prop where
  own : w.ownsRow base 34 3 v ys.length (fcl ys)
  each : ∀ y ∈ ys, y.At w ∧ base ≤ y.lo ∧ y.f.Ok ∧ y.f.b.length ≤ 32
  apart : ys.Pairwise (fun x y => x.hi ≤ y.lo)
theorem FsAt.nil (w : World) (base : Nat) : FsAt w base (.slice none 0 0) [] := ⟨World.ownsRow_nil _ _ _ _, (fun y hy => by cases hy), List.Pairwise.nil⟩
theorem FsAt.grown {w w' : World} {base : Nat} {v : Value} {ys : List El} (h : FsAt w base v ys) (hg : w.grownBy w' none) : FsAt w' base v ys :=
  ⟨own_grown h.own hg, fun y hy => ⟨(h.each y hy).1.grown hg, (h.each y hy).2⟩, h.apart⟩
theorem FsAt.kept {w w' : World} {base : Nat} {v : Value} {ys : List El} {k : Nat} {c : Array Value} {t : TypeId} {fr : Nat × Nat} (h : FsAt w base v ys) (hg : w.grownBy w' (some k)) (hk : w.heap[k]? = some (.cells c t fr)) (h5 : t ≠ 5) (h25 : t ≠ 34) : FsAt w' base v ys :=
  ⟨own_kept h.own hg hk h25, fun y hy => ⟨(h.each y hy).1.kept hg hk h5, (h.each y hy).2⟩, h.apart⟩
theorem FsAt.own_from {base : Nat} {v : Value} (B : Nat) : OwnFrom B (fun (ys : List El) W => FsAt W base v ys) := fun ys W W' row h hg hr => by
  refine ⟨h.own.kept hg ?_, fun y hy => ⟨El.At.own_from y B () W W' row (h.each y hy).1 hg hr, (h.each y hy).2⟩, h.apart⟩
  rcases h.own.2 with ⟨e, _⟩ | ⟨g, cap, cur, e, _, hgg, _⟩
  · exact Or.inl (by rw [e]; rfl)
  · refine Or.inr (fun e' => ?_)
    rw [e] at e'
    obtain ⟨_, o, ho, hc⟩ := hr g e'.symm
    rw [hgg] at ho
    cases ho
    cases hc
theorem own_cells {w : World} {base n size : Nat} {e : TypeId} {v : Value} {xs : List Value} (h : w.ownsRow base e size v n xs) {k : Nat} (hk : v.ownBlock = some k) : ∃ c, w.heap[k]? = some (.cells c e (0, 0)) := by
  rcases h.2 with ⟨rfl, _⟩ | ⟨g, cap, cur, rfl, _, hgg, _⟩
  · simp [Value.ownBlock] at hk
  · simp [Value.ownBlock] at hk
    subst hk
    exact ⟨cur, hgg⟩
/-- One more frame behind them. -/
theorem FsAt.push {w w' : World} {base : Nat} {v v' : Value} {ys : List El} {x : El} (h : FsAt w base v ys) (ho : w'.ownsRow base 34 3 v' (ys.length + 1) (fcl ys ++ [.int .u64 x.f.e, .int .u64 x.f.s, x.v])) (hg : w.grownBy w' v.ownBlock)
    (hx : x.At w) (hl : base ≤ x.lo) (hok : x.f.Ok) (h32 : x.f.b.length ≤ 32) (hlat : ∀ y ∈ ys, y.hi ≤ x.lo) : FsAt w' base v' (ys ++ [x]) := by
  have hkeep : ∀ y : El, y.At w → y.At w' := fun y hy => by
    cases hb : v.ownBlock with
    | none => rw [hb] at hg; exact hy.grown hg
    | some k =>
      rw [hb] at hg
      obtain ⟨c, hc⟩ := own_cells h.own hb
      exact hy.kept hg hc (by decide)
  refine ⟨?_, ?_, ?_⟩
  · rw [List.length_append, fcl_snoc]; exact ho
  · intro y hy
    rcases List.mem_append.1 hy with h1 | h1
    · exact ⟨hkeep y (h.each y h1).1, (h.each y h1).2⟩
    · simp at h1; subst h1; exact ⟨hkeep _ hx, hl, hok, h32⟩
  · refine List.pairwise_append.2 ⟨h.apart, List.pairwise_singleton _ _, fun a ha b hb => ?_⟩
    simp at hb; subst hb; exact hlat a ha

theorem FsAt.base {w : World} {base base' : Nat} {v : Value} {ys : List El} (h : FsAt w base v ys) (hb : base' ≤ base) : FsAt w base' v ys :=
  ⟨own_base h.own hb, fun y hy => ⟨(h.each y hy).1, Nat.le_trans hb (h.each y hy).2.1, (h.each y hy).2.2⟩, h.apart⟩
/-- Inside Scan, between two frames: the row's box, the end's box. -/
structure ScI (w W : World) (B0 B8 B9 n : Nat) (pre : List El) : Prop where
  row : ∃ v, Boxed W B8 26 v ∧ FsAt W B0 v pre
  fin : Boxed W B9 3 (.int .i64 ((fend (frs pre) : Nat) : Int))
  gr : w.grownBy W none
  short : fend (frs pre) ≤ n

theorem ScI.own_from {w : World} {B0 B8 B9 n B : Nat} (hB : w.heap.size ≤ B) : OwnFrom B (fun pre W => ScI w W B0 B8 B9 n pre) := fun pre W W' row h hg hr => by
  obtain ⟨v, hb, hf⟩ := h.row
  have hnb : ∀ {k : Nat} {t : TypeId} {u : Value}, Boxed W k t u → row ≠ some k := fun hbx e => by
    obtain ⟨_, o, ho, hc⟩ := hr _ e
    rw [show W.heap[_]? = _ from hbx] at ho
    cases ho; cases hc
  exact ⟨⟨v, (hg.block B8 hb.lt (fun e => hnb hb e.symm)).trans hb, FsAt.own_from B pre W W' row hf hg hr⟩, (hg.block B9 h.fin.lt (fun e => hnb h.fin e.symm)).trans h.fin,
    grown_then h.gr hg (fun j e => Or.inl (Nat.le_trans hB (hr j e).1)), h.short⟩

theorem row_seqV (Kp : World → World → Prop) (n : Nat) (hn : 1 ≤ n) (Bs Bb Be : Nat) (ao : Option Addr) (m cap : Nat) (xs : List Int) (E S : Int) (hKp : ∀ W W', Kp W W' → Keeps (itQ Bs Bb Be (liveA ao xs)) W W') (N : Nat) (W : World) (hI : ItF W Bs Bb Be ao m cap xs E S) (hN : N ≤ W.heap.size) :
    SeqV Fence.wide n Tryd.prog 31 #[.pointer (some ⟨Bs, 0, none⟩), .pointer (some ⟨Bb, 0, none⟩), .pointer (some ⟨Be, 0, none⟩)] El.enc Kp (ElV N E S xs) (fun ys => frs ys = rowF E S xs) W := fun l J Jx hJ _ hY h0 =>
  row1_in Kp n hn l Bs Bb Be ao m cap xs E S hKp J Jx hJ N hY W hI h0 hN

theorem itQ_lt {W : World} {Bs Bb Be : Nat} {ao : Option Addr} {n cap : Nat} {xs : List Int} {E S : Int} (h : ItF W Bs Bb Be ao n cap xs E S) : ∀ k, itQ Bs Bb Be (liveA ao xs) k → k < W.heap.size := by
  rintro k (rfl | rfl | rfl | rfl | ⟨a, ha, rfl⟩)
  · exact h.bs.lt
  · exact h.bb.lt
  · exact h.be.lt
  · exact tab_lt h.tab
  · exact h.lies.live ha
theorem cells_own_from {β : Type} (B F : Nat) (c : Array Value) (t : TypeId) (fr : Nat × Nat) : OwnFrom B (fun (_ : β) (W : World) => W.heap[F]? = some (.cells c t fr)) := fun _ W W' row h hg hr => by
  refine (hg.block F (row_lt h) (fun e => ?_)).trans h
  obtain ⟨_, o, ho, hc⟩ := hr F e.symm
  rw [h] at ho
  cases ho
  cases hc
theorem cell3_new (W : World) (a b c : Value) (t : TypeId) : ∀ j u, [a, b, c][j]? = some u → (W.alloc (.cells #[a, b, c] t)).cell? ((⟨W.heap.size, 0, none⟩ : Addr).add j) = some u := by
  intro j u hu
  rw [Addr.add_lit, Nat.zero_add, cell_row (heap_alloc_new W (.cells [a, b, c].toArray t))]
  exact hu
theorem Boxed.set {W : World} {B : Nat} {t : TypeId} {v : Value} (h : Boxed W B t v) (u : Value) : Boxed (W.setCell ⟨B, 0, none⟩ u) B t u := by
  have := row_setCell (l := [v]) h 0 u
  exact this

set_option maxHeartbeats 400000 in
theorem size_same (k : Nat) (w : World) (h : k ≤ 32) : Calls Tryd.prog 14 #[.int .i64 (k : Int)] w fun e w' => e = .returned (.int .i64 ((22 + k : Nat) : Int)) ∧ w' = w := by
  go_enter Tryd.func14, Tryd.ntmps14
  go_wp2
  go_ret
  exact ⟨by go_num, rfl⟩
theorem keeps_own {W W' : World} {base n size : Nat} {e : TypeId} {v : Value} {xs : List Value} (ho : W.ownsRow base e size v n xs) (hg : W.grownBy W' v.ownBlock) : KeepsOthers W W' :=
  KeepsOthers.of_grownBy hg (fun j o hj hk => by obtain ⟨c, hc⟩ := own_cells ho hj; rw [hc] at hk; cases hk; rfl)

set_option maxRecDepth 100000 in
set_option maxHeartbeats 2000000 in
theorem scan_any (ao : Option Addr) (n cap : Nat) (xs : List Int) (E S : Int) (w : World) (h : Src w ao n cap xs) (hS0 : 0 ≤ S) (hS1 : S < 18446744073709551616) (hb : n ≤ 1099511627776) :
    Calls Tryd.prog 6 #[.slice ao n cap, .int .u64 E, .int .u64 S] w fun e w' => ∃ v ys, e = .returned (.tuple #[v, .int .i64 ((fend (rowF E S xs) : Nat) : Int)]) ∧ frs ys = rowF E S xs ∧ FsAt w' w.heap.size v ys ∧ w.grownBy w' none := by
  have H := hide h
  have h0 := tab_lt h.tab
  clear h
  refine (callsIn_wide (n := 6)).1 (callsIn_of_wp_marks Tryd.func6 rfl trivial ?_ rfl)
  simp only [Tryd.ntmps6, List.size_toArray, List.length_cons, List.length_nil, Nat.reduceAdd, Nat.reduceSub, Array.replicate_succ, Array.replicate_zero, List.push_toArray, List.append_toArray, List.nil_append, List.cons_append]
  refine wpIn_wide.2 ?_
  have hg1 : w.grownBy ((w.alloc (.cells #[.slice none 0 0] 26)).alloc (.cells #[.int .i64 0] 3)) none := grown_trans (World.grownBy_alloc w _ none) (World.grownBy_alloc _ _ none)
  have b8 : Boxed ((w.alloc (.cells #[.slice none 0 0] 26)).alloc (.cells #[.int .i64 0] 3)) w.heap.size 26 (.slice none 0 0) := (Below.heap_alloc _ _ _ (by simp)).trans (Boxed.new w 26 (.slice none 0 0))
  have b9 : Boxed ((w.alloc (.cells #[.slice none 0 0] 26)).alloc (.cells #[.int .i64 0] 3)) (w.heap.size + 1) 3 (.int .i64 0) := by
    have := Boxed.new (w.alloc (.cells #[.slice none 0 0] 26)) 3 (.int .i64 0)
    rwa [World.size_alloc] at this
  have H1 := hide (And.intro hg1 (And.intro b8 b9))
  clear hg1 b8 b9
  have hsz1 : ((w.alloc (.cells #[.slice none 0 0] 26)).alloc (.cells #[.int .i64 0] 3)).heap.size = w.heap.size + 2 := by simp
  go_wp2_with fail
  generalize ((w.alloc (.cells #[.slice none 0 0] 26)).alloc (.cells #[.int .i64 0] 3)) = w1 at *
  refine (rowOf_any ao n cap xs E S w1 (H.out.grown H1.out.1) hS0 hS1).mono ?_
  rintro e w2 ⟨Bs, Bb, Be, rfl, hI, h1, h2, h3, hg⟩
  have I0 : Hid (ScI w w2 w2.heap.size w.heap.size (w.heap.size + 1) n []) := ⟨⟨_, (hg.block _ (by omega) (by simp)).trans H1.out.2.1, FsAt.nil _ _⟩, (hg.block _ (by omega) (by simp)).trans H1.out.2.2, grown_trans H1.out.1 hg, by simp [fend, frs]⟩
  have hsz2 : w.heap.size + 2 ≤ w2.heap.size := by have := hg.size; omega
  have HI := hide hI
  clear hI hg H1
  unfold itV
  have HL2 : Hid (∀ k, itQ Bs Bb Be (liveA ao xs) k → k < w2.heap.size) := itQ_lt HI.out
  have HQ8 : Hid (¬ itQ Bs Bb Be (liveA ao xs) w.heap.size) := by
    rintro (e | e | e | e | ⟨a, ha, e⟩)
    · omega
    · omega
    · omega
    · omega
    · have := H.out.lies.live ha; omega
  have HQ9 : Hid (¬ itQ Bs Bb Be (liveA ao xs) (w.heap.size + 1)) := by
    rintro (e | e | e | e | ⟨a, ha, e⟩)
    · omega
    · omega
    · omega
    · omega
    · have := H.out.lies.live ha; omega
  obtain ⟨i0, hi, hz0, hz1, hz2⟩ := info_parts Tryd.info34
  have HI25 := hide (And.intro hi (And.intro hz0 (And.intro hz1 hz2)))
  clear hi hz0 hz1 hz2
  go_wp2
  refine (wpIn_wide (n := 6)).1 (wpIn_range_V (w := w2) rfl (by decide) (gf := 31) (lb := #[.pointer (some ⟨Bs, 0, none⟩), .pointer (some ⟨Bb, 0, none⟩), .pointer (some ⟨Be, 0, none⟩)]) rfl trivial (enters_of Tryd.func31 (by kernel_rfl) rfl)
    (encs := El.enc) (Kp := Keeps (itQ Bs Bb Be (liveA ao xs))) (V := ElV w2.heap.size E S xs) (S := fun ys => frs ys = rowF E S xs)
    (fun W hW => row_seqV _ 5 (by decide) Bs Bb Be ao n cap xs E S (fun _ _ h => h) w2.heap.size W (HI.out.grown hW) hW.size)
    (fun h k => h.trans k) (fun W l o hl => Keeps.putObj W l o (fun hq => by have := HL2.out l hq; omega)) (fun W W' _ hg => Keeps.of hg (fun _ e => by cases e)) (fun _ => rfl)
    (fun pre => ElV.own_from _ _ _ _ _ pre)
    (fun pre W => ScI w W w2.heap.size w.heap.size (w.heap.size + 1) n pre ∧ w2.heap.size ≤ W.heap.size) (fun _ _ _ => False)
    (fun s W W' row h hg hr => ⟨ScI.own_from (by omega) s W W' row h.1 hg hr, Nat.le_trans h.2 hg.size⟩) (fun _ _ _ _ _ h _ _ => h) ⟨I0.out, Nat.le_refl _⟩
    (fun x a' W => ∃ F v8, a' = { tmps := #[Value.slice ao n cap, Value.int .u64 E, Value.int .u64 S, undef, undef, undef,
          Value.slice none 0 0, Value.int .i64 0, Value.pointer (some ⟨w.heap.size, 0, none⟩),
          Value.pointer (some ⟨w.heap.size + 1, 0, none⟩), .int .i64 (x.at_ : Int), .pointer (some ⟨F, 0, none⟩), Value.slice ao n cap,
          Value.int .u64 E, Value.int .u64 S,
          Value.func (Fn.func 31) #[] #[Value.pointer (some ⟨Bs, 0, none⟩), Value.pointer (some ⟨Bb, 0, none⟩), Value.pointer (some ⟨Be, 0, none⟩)],
          .int .i64 (x.at_ : Int), frV x.f.e x.f.s x.v, undef, undef, undef, undef, undef, undef, undef, undef, undef, undef, undef, undef], defers := [] } ∧ W.heap[F]? = some (.cells [Value.int .u64 x.f.e, .int .u64 x.f.s, x.v].toArray 34 (0, 0)) ∧ w2.heap.size ≤ F ∧ Boxed W w.heap.size 26 v8 ∧ (∀ k, v8.ownBlock = some k → k ≠ F))
    (fun x a' W W' row h hg hr => by obtain ⟨F, v8, ha, hF, hl, hb, hk⟩ := h; exact ⟨F, v8, ha, cells_own_from (β := Unit) _ F _ 34 _ () W W' row hF hg hr, hl, cells_own_from (β := Unit) _ w.heap.size _ 26 _ () W W' row hb hg hr, hk⟩)
    ?assign ?body ?done (fun _ _ _ _ _ h _ => h.elim))
  case assign =>
    intro l pre x W K hI hV hK
    have hsz : w2.heap.size ≤ W.heap.size := hI.2
    obtain ⟨vo, vc, hvf⟩ := own_form hV.lies.own
    simp only [El.enc, frV]
    rw [hvf]
    gi_wp2
    rw [← hvf]
    obtain ⟨v8, hb8, hf8⟩ := hI.1.row
    refine hK _ _ (World.grownBy_alloc W _ none) ⟨_, v8, rfl, heap_alloc_new W _, hsz, (Below.heap_alloc _ _ _ hb8.lt).trans hb8, fun k hk => ?_⟩
    have := (hf8.own.lt k hk).2
    omega
  case body =>
    rintro l pre ⟨at_, ⟨e, s, b⟩, v, lo, hi⟩ a' W ⟨hI, hsz⟩ hV ⟨F, v8, rfl, hF, hFl, hb8', hk8⟩
    obtain ⟨vo, vc, hvf⟩ := own_form hV.lies.own
    simp only at hvf
    subst hvf
    obtain ⟨vr, hb8, hfs⟩ := hI.row
    obtain rfl : v8 = vr := by
      have := (show W.heap[w.heap.size]? = _ from hb8').symm.trans (show W.heap[w.heap.size]? = _ from hb8)
      simpa using this
    obtain ⟨ro, rc, rfl⟩ := own_form hfs.own
    have HK8 := hide hk8
    clear hb8' hk8
    have c8 := hb8.cell
    obtain ⟨d0, d1, d2⟩ := box_cells hF
    have h22 := fend_len (frs pre)
    rw [frs_length] at h22
    have hfit : pre.length * 22 ≤ n := by have := hI.short; omega
    have hat := hV.place
    simp only at hat
    have h32 := hV.short
    simp only at h32
    have HX := hide (And.intro hI (And.intro hV (And.intro hF (And.intro hb8 hfs))))
    simp only [frV]
    clear hI hV hF hb8 hfs
    gi_wp2_with (gi_at_builtin; refine wpListIn_append_own _ rfl (.tmp 18) (.tmp 20) 26 rfl w2.heap.size 34 i0 (.agg #[.int .u64 0, .int .u64 0, .slice none 0 0]) 3 40 Tryd.underlying26 HI25.out.1 HI25.out.2.1 HI25.out.2.2.1 HI25.out.2.2.2 rfl (by decide) (.slice ro pre.length rc) pre.length (fcl pre) rfl (own_grown HX.out.2.2.2.2.own (World.grownBy_alloc W _ none)) ⟨W.heap.size, 0, none⟩ 1 1 [.int .u64 e, .int .u64 s, .slice vo b.length vc] rfl rfl (cell3_new _ _ _ _ _) (by simp [Value.oneCell']) (by unfold maxLen; omega) (by omega) (by simp; omega) ?_)
    intro v' w1 ho hg hne
    obtain ⟨hI, hV, hF, hb8, hfs⟩ := HX.out
    have hga := World.grownBy_alloc W (.cells #[.int .u64 e, .int .u64 s, .slice vo b.length vc] 34) none
    have hrow : ∀ k, (Value.slice ro pre.length rc).ownBlock = some k → w2.heap.size ≤ k := fun k hk => (hfs.own.lt k hk).1
    have hp : FsAt w1 w2.heap.size v' (pre ++ [⟨at_, ⟨e, s, b⟩, .slice vo b.length vc, lo, hi⟩]) :=
      (hfs.grown hga).push (by exact ho) hg (hV.lies.grown hga) hV.lo hV.ok hV.short hV.later
    have hkeep : ∀ k, k < W.heap.size → (Value.slice ro pre.length rc).ownBlock ≠ some k → w1.heap[k]? = W.heap[k]? := fun k hk hne => (hg.block k (by simp; omega) (fun e => hne e.symm)).trans (hga.block k hk (by simp))
    have b8 : Boxed w1 w.heap.size 26 (.slice ro pre.length rc) := (hkeep _ hb8.lt (fun e => by have := hrow _ e; omega)).trans hb8
    have b9 : Boxed w1 (w.heap.size + 1) 3 (.int .i64 ((fend (frs pre) : Nat) : Int)) := (hkeep _ hI.fin.lt (fun e => by have := hrow _ e; omega)).trans hI.fin
    have hF1 := (hkeep F (row_lt hF) (fun e => HK8.out F e rfl)).trans hF
    obtain ⟨ro', rc', rfl⟩ := own_form ho
    have hs8 := grown_setCell w1 w.heap.size 0 (.slice ro' (pre.length + 1) rc')
    have hp2 := hp.kept hs8 b8 (by decide) (by decide)
    have b8' := b8.set (.slice ro' (pre.length + 1) rc')
    have b9' := b9.other (by omega) (B' := w.heap.size) (.slice ro' (pre.length + 1) rc')
    have hFne : F ≠ w.heap.size := by omega
    have hF2 := (hs8.block F (row_lt hF1) (by simpa using hFne)).trans hF1
    have hK2 : KeepsOthers W (w1.setCell ⟨w.heap.size, 0, none⟩ (.slice ro' (pre.length + 1) rc')) :=
      ((KeepsOthers.alloc W _).trans (keeps_own (hfs.grown hga).own hg)).trans (KeepsOthers.setCell _ _ _)
    have hKp2 : Keeps (itQ Bs Bb Be (liveA ao xs)) W (w1.setCell ⟨w.heap.size, 0, none⟩ (.slice ro' (pre.length + 1) rc')) := by
      refine ((Keeps.of hga (fun _ e => by cases e)).trans (Keeps.of hg (fun k hk hq => ?_))).trans (Keeps.of hs8 (fun k hk hq => by cases hk; exact HQ8.out hq))
      have := HL2.out k hq
      have := hrow k hk
      omega
    have hg2 : w.grownBy (w1.setCell ⟨w.heap.size, 0, none⟩ (.slice ro' (pre.length + 1) rc')) none :=
      grown_then (grown_then (grown_trans hI.gr hga) hg (fun j e => Or.inl (by have := hrow j e; omega))) hs8 (fun j e => by cases e; exact Or.inl (Nat.le_refl _))
    have c8 := b8.cell
    have f8 := b8.frozen
    have c9 := b9'.cell
    have f9 := b9'.frozen
    obtain ⟨e0, e1, e2⟩ := box_cells hF2
    have HY := hide (And.intro hp2 (And.intro b8' (And.intro b9' (And.intro hK2 (And.intro hKp2 (And.intro hg2 hV))))))
    have hb32 : b.length ≤ 32 := h32
    have hfe : fend (frs pre) ≤ n := hI.short
    have HSh : Hid (fend (frs pre) + (22 + b.length) ≤ n) := by
      have := hV.row.fits
      rw [fend_snoc, H.out.len] at this
      exact this
    clear hI hV hF hb8 hfs hga hrow hp hkeep b8 b9 hF1 hs8 hp2 b8' b9' hF2 hK2 hKp2 hg2 ho hg hne HX d0 d1 d2 h22 hfit
    generalize hW3 : w1.setCell ⟨w.heap.size, 0, none⟩ (.slice ro' (pre.length + 1) rc') = w3 at *
    gi_wp2_with fail
    refine ⟨trivial, ?_⟩
    refine (CallsIn.inRound l (callsIn_wide.2 (size_same b.length w3 hb32))).mono ?_
    rintro e' w4 ⟨rfl, rfl⟩
    gi_wp2
    obtain ⟨hp2, b8', b9', hK2, hKp2, hg2, hV⟩ := HY.out
    have hs9 := grown_setCell w4 (w.heap.size + 1) 0 (.int .i64 (((fend (frs pre) : Nat) : Int) + ((22 + b.length : Nat) : Int)))
    refine ⟨(hK2.trans (KeepsOthers.setCell _ _ _)).from _, hKp2.trans (Keeps.of hs9 (fun k hk hq => by cases hk; exact HQ9.out hq)), ⟨⟨_, b8'.other (by omega) _, hp2.kept hs9 b9' (by decide) (by decide)⟩, ?_, grown_then hg2 hs9 (fun j e => by cases e; exact Or.inl (by omega)), ?_⟩, ?_⟩
    · have := b9'.set (.int .i64 (((fend (frs pre) : Nat) : Int) + ((22 + b.length : Nat) : Int)))
      rw [frs_snoc, fend_snoc, Int.natCast_add]
      exact this
    · rw [frs_snoc, fend_snoc]; exact HSh.out
    · exact Nat.le_trans hsz (Nat.le_trans hK2.size (by simp [World.setCell]))
  case done =>
    rintro D ys W hD hys ⟨hI, hsz⟩ hK
    obtain ⟨v, hb8, hfs⟩ := hI.row
    have c8 := hb8.cell
    have c9 := hI.fin.cell
    have HX := hide (And.intro hI (And.intro hb8 (And.intro hfs (And.intro hK hys))))
    obtain ⟨ro, rc, rfl⟩ := own_form hfs.own
    clear hI hb8 hfs hK hys
    go_wp2
    go_quiet (fail)
    go_wp2
    obtain ⟨hI, hb8, hfs, hK, hys⟩ := HX.out
    have hKd : (W.drewN nq).heap[D]? = some (.deferred (some [])) := hK
    refine ⟨by simp, .inl ⟨_, _, rfl, run_takeDeferred hKd, ?_⟩⟩
    have hf2 := FsAt.own_from (B := w2.heap.size) ys (W.drewN nq) ((W.drewN nq).putObj D (.deferred none)) (some D) ((hfs.base (base' := w.heap.size) (by omega)).grown (grown_drewN W nq none)) (grownBy_putObj' _ D _) (fun r e => by cases e; exact ⟨hD, _, hKd, rfl⟩)
    refine ⟨_, results_tmp2 rfl _ _ _, _, ys, by rw [← hys]; rfl, hys, hf2, ?_⟩
    exact grown_then (grown_trans hI.gr (grown_drewN W nq none)) (grownBy_putObj' _ D _) (fun j e => by cases e; exact Or.inl (by omega))
end Go.Proofs.YtoeehajdmdmemabDoor
