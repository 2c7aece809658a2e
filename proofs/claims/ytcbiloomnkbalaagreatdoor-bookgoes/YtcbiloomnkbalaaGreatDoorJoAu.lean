/- Texts joined: BkJ, BkK, BkL. -/
import Derived.Test.YtcbiloomnkbalaaGreatDoorJoAt
/- What an iterator tells, gathered. -/
namespace Go.Proofs.YtcbiloomnkbalaaGreatDoor
open Go.RowKit Go.Shelf
attribute [local go_sem ↓] Go.wp_at_zero Go.wp_at_succ
attribute [local go_sem] Oper.semAt_some
theorem eqlNil74 (w : World) (f : Nat) (lb : Array Value) : (binOp .eql 74 (.func (.func f) #[] lb) .nilFunc).run Tryz.prog w = .ok (.bool false) w := by kernel_rfl
theorem cells_own_from {cs : Array Value} {t : TypeId} {f : Nat × Nat} {b : Nat} (B : Nat) : OwnFrom B (fun (_ : Unit) W => W.heap[b]? = some (.cells cs t f)) := fun _ W W' row h hg hr => (hg.block b (row_lt h) (fun e => by
  obtain ⟨_, o, ho, hc⟩ := hr b e.symm
  rw [h] at ho
  cases ho
  cases hc)).trans h
theorem own_base {W : World} {b b' : Nat} {e : TypeId} {size n : Nat} {v : Value} {xs : List Value} (h : W.ownsRow b e size v n xs) (hb : b' ≤ b) : W.ownsRow b' e size v n xs := by
  refine ⟨h.1, ?_⟩
  rcases h.2 with h2 | ⟨g, cap, cur, h2, h3, h4⟩
  · exact .inl h2
  · exact .inr ⟨g, cap, cur, h2, Nat.le_trans hb h3, h4⟩
/-- Inside told, between two of them. -/
structure ToI (w W : World) (pre : List Bg) : Prop where
  row : ∃ v, Boxed W w.heap.size 25 v ∧ W.ownsRow (w.heap.size + 1) 78 3 v pre.length (bgs pre)
  gr : w.grownBy W none
  sz : w.heap.size + 1 ≤ W.heap.size
theorem ToI.own_from {w : World} {B : Nat} (hB : w.heap.size ≤ B) : OwnFrom B (fun pre W => ToI w W pre) := fun pre W W' row h hg hr => by
  obtain ⟨v, h1, h2⟩ := h.row
  exact ⟨⟨v, box_own_from B () W W' row h1 hg hr, own_own_from B () W W' row h2 hg hr⟩, grown_then h.gr hg (fun j e => Or.inl (Nat.le_trans hB (hr j e).1)), Nat.le_trans h.sz hg.size⟩
set_option maxRecDepth 100000 in
set_option maxHeartbeats 4000000 in
theorem told_any {w : World} {B0 : Nat} {u : Value} {X : List Bg} (h : VlV w B0 u X) (hX : X.length ≤ 65536) : Calls Tryz.prog 26 #[u] w fun e w' => ∃ v, e = .returned (.tuple #[v, .bool true]) ∧ w'.ownsRow w.heap.size 78 3 v X.length (bgs X) ∧ w.grownBy w' none := by
  have hnil := eqlNil74
  obtain ⟨B, so, cap, rfl, hI, -⟩ := h
  have hsl := hI.lt
  obtain ⟨w1, hw1⟩ : ∃ w1, w1 = w.alloc (.cells #[.slice none 0 0] 25) := ⟨_, rfl⟩
  have g1 : w.grownBy w1 none := by rw [hw1]; exact grown_alloc _ _
  have b1 : Boxed w1 w.heap.size 25 (.slice none 0 0) := by rw [hw1]; exact Boxed.new w 25 _
  have s1 : w1.heap.size = w.heap.size + 1 := by rw [hw1]; simp
  have I0 : Hid (ToI w w1 []) := ⟨⟨_, b1, World.ownsRow_nil _ _ _ _⟩, g1, by omega⟩
  have HI := hide (And.intro (hI.grown g1) (And.intro hsl hX))
  have HW1 := hide (And.intro hw1 s1)
  have hs1 := s1
  have l0 := b1.cell
  obtain ⟨i0, hi0, hz0, hz1, hz2⟩ := info_parts Tryz.info78
  have H78 := hide (And.intro hi0 (And.intro hz0 (And.intro hz1 hz2)))
  clear hi0 hz0 hz1 hz2 hI hsl hX g1 b1 hw1 s1
  refine (callsIn_wide (n := 6)).1 (callsIn_of_wp_marks Tryz.func26 rfl trivial ?_ rfl)
  simp only [Tryz.ntmps26, List.size_toArray, List.length_cons, List.length_nil, Nat.reduceAdd, Nat.reduceSub, Array.replicate_succ, Array.replicate_zero, List.push_toArray, List.append_toArray, List.nil_append, List.cons_append]
  refine wpIn_wide.2 ?_
  go_wp2
  rw [← HW1.out.1]
  refine (wpIn_wide (n := 6)).1 (wpIn_range_V (w := w1) rfl (by decide) (gf := 82) (lb := #[.pointer (some ⟨B, 0, none⟩)]) rfl trivial (enters_of Tryz.func82 (by kernel_rfl) rfl)
    (encs := encB) (Kp := KpB (vbk B so X.length)) (V := fun pre x _ => pre ++ [x] <+: X) (S := fun ys => ys = X)
    (fun W hW => vt_seqV 5 (by decide) B so cap X HI.out.2.2 W (HI.out.1.grown hW))
    (fun h k => h.trans k) (fun W l o hl => KpB.put (fun hq => by have := HI.out.2.1 l hq; omega)) (fun W W' _ hg => KpB.new hg) (fun _ => rfl)
    (fun pre => fun _ _ _ _ h _ _ => h)
    (fun pre W => ToI w W pre) (fun _ _ _ => False)
    (ToI.own_from (by omega)) (fun _ _ _ _ _ h _ _ => h) I0.out
    (fun x a' W => ∃ F, a' = { tmps := #[Value.func (Fn.func 82) #[] #[Value.pointer (some ⟨B, 0, none⟩)], undef, Value.slice none 0 0, Value.bool false, Value.pointer (some ⟨w.heap.size, 0, none⟩), Value.pointer (some ⟨F, 0, none⟩), Value.func (Fn.func 82) #[] #[Value.pointer (some ⟨B, 0, none⟩)], Value.bool false, undef, Value.func (Fn.func 82) #[] #[Value.pointer (some ⟨B, 0, none⟩)], bgV x, undef, undef, undef, undef, undef], defers := [] } ∧ W.heap[F]? = some (.cells (bgc x).toArray 78 (0, 0)))
    (fun x => fun a' W W' row h hg hr => by obtain ⟨F, h1, h2⟩ := h; exact ⟨F, h1, cells_own_from w1.heap.size () W W' row h2 hg hr⟩) ?assign ?body ?done (fun _ _ _ _ _ h _ => h.elim))
  case assign =>
    rintro l pre ⟨xi, xs, xu⟩ W K hI hV hK
    simp only [encB, bgV]
    gi_wp2
    exact hK _ _ (grown_alloc W _) ⟨W.heap.size, rfl, heap_alloc_new W _⟩
  case body =>
    rintro l pre ⟨xi, xs, xu⟩ a' W hI hV ⟨F, rfl, hF⟩
    have hpl : pre.length + 1 ≤ X.length := by have := hV.length_le; simpa using this
    have hX0 := HI.out.2.2
    obtain ⟨v, hb2, hr2⟩ := hI.row
    obtain ⟨vo, vcap, rfl, -⟩ := Ix.own_form hr2
    have l1 : W.cell? ⟨w.heap.size, 0, none⟩ = some (.slice vo pre.length vcap) := hb2.cell
    obtain ⟨f0, f1, f2, -⟩ := box3 hF
    have hsz := hI.sz
    have HX := hide (And.intro hI (And.intro hb2 hr2))
    have HC := hide (cell3_new W ⟨xi, xs, xu⟩ 78)
    simp only [bgc, bgV] at *
    clear hI hb2 hr2 hV hF
    gi_wp2_with (gi_at_builtin; refine wpListIn_append_own _ rfl (.tmp 11) (.tmp 13) 25 rfl (w.heap.size + 1) 78 i0 (.agg #[.int .u32 0, .int .i64 0, .int .i64 0]) 3 24 Tryz.underlying25 H78.out.1 H78.out.2.1 H78.out.2.2.1 H78.out.2.2.2 rfl (by decide) (.slice vo pre.length vcap) pre.length (bgs pre) rfl (HX.out.2.2.alloc _) ⟨W.heap.size, 0, none⟩ 1 1 [.int .u32 (xi : Int), .int .i64 (xs : Int), .int .i64 xu] rfl rfl HC.out (by simp [Value.oneCell']) (by unfold maxLen; omega) (by omega) (by simp; omega) ?_)
    intro v' w3 ho hg hne
    obtain ⟨hI, hb2, hr2⟩ := HX.out
    have ho' : w3.ownsRow (w.heap.size + 1) 78 3 v' (pre.length + 1) (bgs (pre ++ [⟨xi, xs, xu⟩])) := by rw [← bgs_snoc]; exact ho
    obtain ⟨q1, q2, q3, q4, q5, q6⟩ := box_app hb2 (by decide) hr2 ho' hg
    have hrow1 : ∀ k, (Value.slice vo pre.length vcap).ownBlock = some k → w.heap.size + 1 ≤ k := fun k hk => (Ix.own_block hr2 hk).1
    have HZZ : Hid (∀ a', ownPostG w1.heap.size (KpB (vbk B so X.length)) (fun pre W => ToI w W pre) (fun _ _ _ => False) (pre ++ [⟨xi, xs, xu⟩]) W .normal a' (w3.setCell ⟨w.heap.size, 0, none⟩ v')) := by
      intro a'
      refine ⟨q4.from _, KpB.of q6 ?_, ⟨⟨v', q2, by rw [List.length_append]; exact q3⟩, ?_, Nat.le_trans hsz q6.size⟩⟩
      · intro i hi
        have h2 := HI.out.2.1 i hi
        rintro (e | e)
        · omega
        · have := hrow1 i e; omega
      · refine Kept.grown (((Kept.new hI.gr (fun i => w.heap.size ≤ i)).trans q6 ?_)) (fun i hi e => by omega)
        rintro i hi (e | e)
        · omega
        · have := hrow1 _ e; omega
    obtain ⟨vo', vcap', rfl, -⟩ := Ix.own_form ho
    have l2 := q1.cell
    have l3 := q1.frozen
    clear q1 q2 q3 q4 q5 q6 hrow1 ho ho' hg hne hI hb2 hr2 HX HC
    gi_wp2
    exact HZZ.out _
  case done =>
    rintro D ys W hD rfl hI hK
    obtain ⟨v, hb2, hr2⟩ := hI.row
    obtain ⟨vo, vcap, rfl, -⟩ := Ix.own_form hr2
    have l1 : W.cell? ⟨w.heap.size, 0, none⟩ = some (.slice vo ys.length vcap) := hb2.cell
    have HX := hide (And.intro hI (And.intro hr2 hK))
    clear hI hb2 hr2 hK
    go_wp2
    obtain ⟨hI, hr2, hK⟩ := HX.out
    refine ⟨by simp, .inl ⟨_, _, rfl, run_takeDeferred hK, ?_⟩⟩
    have hf2 := ownsRow_putObj hr2 (.deferred none) hK rfl
    refine ⟨_, results_tmp2 rfl _ _ _, _, rfl, own_base hf2 (by omega), ?_⟩
    exact grown_then hI.gr (grownBy_putObj' _ D _) (fun j e => by cases e; exact Or.inl (by omega))
end Go.Proofs.YtcbiloomnkbalaaGreatDoor
/- A copy of a book. -/
namespace Go.Proofs.YtcbiloomnkbalaaGreatDoor
open Go.RowKit Go.Shelf
attribute [local go_sem ↓] Go.wp_at_zero Go.wp_at_succ
attribute [local go_sem] Oper.semAt_some
section
variable {w w' W W' : World} {p q : Bp} {S : Sb} {K : Nat}
theorem row_cells {w : World} {b : Nat} {e : TypeId} {size n : Nat} {v : Value} {xs : List Value} (h : w.ownsRow b e size v n xs) {i : Nat} (hi : v.ownBlock = some i) : ∃ o : Obj, w.heap[i]? = some o ∧ o.isCells = true := by
  obtain ⟨-, cur, hc⟩ := Ix.own_block h hi
  exact ⟨_, hc, rfl⟩
/-- A book's blocks are cells, but for its two maps. -/
theorem BkAt.ctl (h : BkAt w p S K) : ∀ i, p.own i → (∃ o : Obj, w.heap[i]? = some o ∧ o.isCells = true) ∨ i = p.hp.mb ∨ i = p.hm := by
  obtain ⟨Lb, R, M, E, T, N, B, C, h, -⟩ := h
  rintro i ⟨k, (⟨-, rfl⟩ | ⟨-, rfl⟩ | ⟨-, rfl⟩ | ⟨-, hi⟩ | ⟨-, rfl⟩ | ⟨-, rfl⟩ | ⟨-, hi⟩ | ⟨-, rfl⟩)⟩
  · exact .inl ⟨_, h.head, rfl⟩
  · exact .inl ⟨_, h.var, rfl⟩
  · exact .inl ⟨_, h.row, rfl⟩
  · obtain ⟨lo, st, SS, h1, -⟩ := h.ix
    rcases hi with rfl | rfl
    · exact .inl ⟨_, h1.at_.head, rfl⟩
    · exact .inl ⟨_, h1.at_.row, rfl⟩
  · obtain ⟨WW, cap, cur, h1, h2, -⟩ := h.set; exact .inl ⟨_, h1, rfl⟩
  · obtain ⟨WW, cap, cur, h1, h2, -⟩ := h.set; exact .inl ⟨_, h2, rfl⟩
  · rcases hi with rfl | hi | hi | rfl
    · exact .inl ⟨_, h.due.at_.head, rfl⟩
    · exact .inl (row_cells h.due.at_.ent hi)
    · exact .inl (row_cells h.due.at_.lst hi)
    · exact .inr (.inl rfl)
  · exact .inr (.inr rfl)
/-- The maps lie below B. -/
def Bp.Lo (p : Bp) (B : Nat) : Prop := p.hp.mb < B ∧ p.hm < B
theorem Bst.lo {B : Nat} (h : Bst w w' p q) (hl : p.Lo B) : q.Lo B := ⟨by rw [h.mb]; exact hl.1, by rw [h.hm]; exact hl.2⟩
theorem BkAt.ctl_no {B : Nat} (h : BkAt w p S K) (hl : p.Lo B) {i : Nat} {o : Obj} (hB : B ≤ i) (ho : w.heap[i]? = some o) (hc : o.isCells = false) : ¬ p.own i := fun e => by
  rcases h.ctl i e with ⟨o', h1, h2⟩ | h1 | h1
  · rw [ho] at h1; cases h1; rw [hc] at h2; cases h2
  · have := hl.1; omega
  · have := hl.2; omega
theorem Bst.keeps {B : Nat} (h : Bst w w' p q) (hb : BkAt w p S K) (hl : p.Lo B) : KeepsFrom B w w' :=
  ⟨h.kept.size, fun _k _o hk ho hc => h.kept.at ho (hb.ctl_no hl hk ho hc)⟩
theorem BkAt.own_from {B : Nat} (hl : p.Lo B) : OwnFrom B (fun (_ : Unit) W => BkAt W p S K) := fun _ W W' row h hg hr =>
  h.far (X := fun i => row = some i) (Kept.of hg (fun j e _ => e)) (fun i hi e => by
    obtain ⟨h1, o, h2, h3⟩ := hr i e
    exact h.ctl_no hl h1 h2 h3 hi)
end
/-- The copy, without bookings yet. -/
structure Cp0 (w W : World) (S : Sb) (Bc : Nat) (q : Bp) : Prop where
  bk : BkAt W q { S with L := [] } 0
  bx : Boxed W Bc 31 (.pointer (some ⟨q.b, 0, none⟩))
  gr : w.grownBy W none
  own : ∀ i, q.own i → w.heap.size ≤ i
  nb : ¬ q.own Bc
  lo : w.heap.size ≤ Bc
theorem Cp0.drew {w W : World} {S : Sb} {Bc : Nat} {q : Bp} (h : Cp0 w W S Bc q) : Cp0 w W.drew S Bc q := ⟨h.bk.then (grown_drew _ none), h.bx.kept (grown_drew _ none) (by simp), gn_drew h.gr, h.own, h.nb, h.lo⟩
theorem cp0_a {w w1 : World} {S : Sb} {q : Bp} (h1 : BkAt w1 q { S with L := [] } 0) (h2 : w.grownBy w1 none) (h3 : ∀ i, q.own i → w.heap.size ≤ i) : Cp0 w (w1.alloc (.cells #[.pointer (some ⟨q.b, 0, none⟩)] 31)) S w1.heap.size q :=
  ⟨h1.then (grown_alloc _ _), Boxed.new w1 31 _, gn_alloc h2 _, h3, fun e => Nat.lt_irrefl _ (h1.lt _ e), h2.size⟩
theorem cp0_b {w w1 : World} {S : Sb} {q : Bp} (h1 : BkAt w1 q { S with L := [] } 0) (h2 : (w.alloc (.cells #[.pointer none] 31)).grownBy w1 none) (h3 : ∀ i, q.own i → w.heap.size + 1 ≤ i) : Cp0 w (w1.setCell ⟨w.heap.size, 0, none⟩ (.pointer (some ⟨q.b, 0, none⟩))) S w.heap.size q := by
  have hb : Boxed w1 w.heap.size 31 (.pointer none) := (Boxed.new w 31 _).kept h2 (by simp)
  have hn : ¬ q.own w.heap.size := fun e => by have := h3 _ e; omega
  exact ⟨h1.far (kept_setCell w1 w.heap.size 0 _) (fun i hi e => hn (by rw [← e]; exact hi)), hb.set _, gn_set (grown_trans (grown_alloc w _) h2) (Nat.le_refl _), fun i hi => by have := h3 i hi; omega, hn, Nat.le_refl _⟩
/-- Inside Copy, between two bookings. -/
structure CoI (w W : World) (S : Sb) (Bc b1 b2 : Nat) (b : Nat) (pre : List Bg) : Prop where
  bk : ∃ q : Bp, q.b = b ∧ BkAt W q { S with L := pre } pre.length ∧ q.Lo b1 ∧ (∀ i, q.own i → (w.heap.size ≤ i ∧ i < b1) ∨ b2 ≤ i) ∧ ¬ q.own Bc
  bx : Boxed W Bc 31 (.pointer (some ⟨b, 0, none⟩))
  gr : w.grownBy W none
  sz : b2 ≤ W.heap.size
theorem Bp.Lo.mono {p : Bp} {a b : Nat} (h : p.Lo a) (hab : a ≤ b) : p.Lo b := ⟨Nat.lt_of_lt_of_le h.1 hab, Nat.lt_of_lt_of_le h.2 hab⟩
theorem CoI.own_from {w : World} {S : Sb} {Bc b1 b2 b : Nat} (hB : w.heap.size ≤ b2) (h12 : b1 ≤ b2) : OwnFrom b2 (fun pre W => CoI w W S Bc b1 b2 b pre) := fun pre W W' row h hg hr => by
  obtain ⟨q, e, h1, h2, h3, h4⟩ := h.bk
  exact ⟨⟨q, e, BkAt.own_from (h2.mono h12) () W W' row h1 hg hr, h2, h3, h4⟩, box_own_from b2 () W W' row h.bx hg hr, grown_then h.gr hg (fun j e => Or.inl (Nat.le_trans hB (hr j e).1)), Nat.le_trans h.sz hg.size⟩
theorem pre_facts {L pre : List Bg} {x : Bg} (h : pre ++ [x] <+: L) (hA : AscB L) (hO : OneS L) : x ∈ L ∧ (∀ y ∈ pre, y.i < x.i) ∧ sat pre x.s = none ∧ pre.Sublist L ∧ pre.length + 1 ≤ L.length := by
  have h1 := h.sublist
  have hA' : AscB (pre ++ [x]) := List.Pairwise.sublist h1 hA
  have hO' : OneS (pre ++ [x]) := List.Pairwise.sublist h1 hO
  unfold AscB at hA'
  unfold OneS at hO'
  rw [List.pairwise_append] at hA' hO'
  refine ⟨h.subset (by simp), fun y hy => hA'.2.2 y hy x (by simp), sat_none.2 (fun y hy => hO'.2.2 y hy x (by simp)), (List.sublist_append_left _ _).trans h1, by have := h.length_le; simpa using this⟩
set_option maxRecDepth 100000 in
set_option maxHeartbeats 8000000 in
theorem copy_any {w : World} {p : Bp} {S : Sb} {K : Nat} (h : BkAt w p S K) (hw : S.Wk) : Calls Tryz.prog 22 #[.pointer (some ⟨p.b, 0, none⟩)] w fun e w' => ∃ q : Bp, e = .returned (.pointer (some ⟨q.b, 0, none⟩)) ∧ BkAt w' q S 4096 ∧ w.grownBy w' none ∧ (∀ i, q.own i → w.heap.size ≤ i) := by
  have HN := hide h.isNone
  have hz0 : 0 < w.heap.size := by have := h.lt _ ⟨0, Bp.r0⟩; omega
  have HE : Hid (∀ W, w.grownBy W none → Calls Tryz.prog 40 #[.agg #[.int .i64 (S.a : Int), .int .i64 (S.b : Int), .int .i64 (S.c : Int)], .int .u32 (S.n : Int), .int .i64 S.t] W fun e w' => ∃ q, e = .returned (.pointer (some ⟨q.b, 0, none⟩)) ∧ BkAt w' q { S with L := [] } 0 ∧ W.grownBy w' none ∧ (∀ i, q.own i → W.heap.size ≤ i)) := by
    intro W hg
    have a0 := hw.a0
    have a1 := hw.a1
    have b0 := hw.b0
    have b1 := hw.b1
    have c0 := hw.c0
    have c1 := hw.c1
    exact empty_any S.a S.b S.c S.n S.t (by unfold Gx.OkS; omega) W (by have := hg.size; omega)
  have HA : Hid (∀ W, w.grownBy W none → Calls Tryz.prog 27 #[.pointer (some ⟨p.b, 0, none⟩)] W fun e w' => ∃ u, e = .returned u ∧ VlV w' W.heap.size u S.L ∧ W.grownBy w' none) := fun W hg => all_any (h.then hg) hw
  have HS : Hid (∀ W, w.grownBy W none → W.cell? ⟨p.b, 0, none⟩ = some (.int .i64 (S.a : Int)) ∧ W.cell? ⟨p.b, 1, none⟩ = some (.int .i64 (S.b : Int)) ∧ W.cell? ⟨p.b, 2, none⟩ = some (.int .i64 (S.c : Int)) ∧ W.cell? ⟨p.b, 4, none⟩ = some (.int .u32 (S.n : Int)) ∧ W.cell? ⟨p.b, 5, none⟩ = some (.int .i64 S.t)) := by
    intro W hg
    have h1 := h.then hg
    exact ⟨h1.cells 0 _ rfl, h1.cells 1 _ rfl, h1.cells 2 _ rfl, h1.cells 4 _ rfl, h1.cells 5 _ rfl⟩
  have HW := hide hw
  have hL4 : S.L.length ≤ 4096 := by have := hw.few; have := hw.b1; omega
  clear h hw
  refine (callsIn_wide (n := 6)).1 (callsIn_of_wp_marks Tryz.func22 rfl trivial ?_ rfl)
  simp only [Tryz.ntmps22, List.size_toArray, List.length_cons, List.length_nil, Nat.reduceAdd, Nat.reduceSub, Array.replicate_succ, Array.replicate_zero, List.push_toArray, List.append_toArray, List.nil_append, List.cons_append]
  refine wpIn_wide.2 ?_
  go_wp2_with fail
  refine HN.out.mono ?_
  rintro e wa ⟨rfl, hwa⟩
  obtain rfl := hwa.symm
  go_wp2
  go_cut [3] from 7 to 20 (fun v W => ∃ Bc q, v = .pointer (some ⟨Bc, 0, none⟩) ∧ Hid (Cp0 w W S Bc q))
  case first =>
    go_region_held3 (fun W => W.cell? ⟨p.b, 0, none⟩ = some (.int .i64 (S.a : Int)) ∧ W.cell? ⟨p.b, 1, none⟩ = some (.int .i64 (S.b : Int)) ∧ W.cell? ⟨p.b, 2, none⟩ = some (.int .i64 (S.c : Int)) ∧ W.cell? ⟨p.b, 4, none⟩ = some (.int .u32 (S.n : Int)) ∧ W.cell? ⟨p.b, 5, none⟩ = some (.int .i64 S.t))
      (first | with_reducible assumption | exact HS.out _ (grown_drew w none) | exact HS.out _ (gn_drew (grown_alloc w _)) | exact HS.out _ (gn_alloc G1.out _) | exact HS.out _ (gn_set (grown_trans (grown_alloc w _) G2.out) (Nat.le_refl _)))
      ((first
        | (go_at_call 40; have hq := HE.out _ (grown_drew w none); with_reducible refine hq.mono ?_; clear hq; rintro e w1 ⟨q, rfl, k1, k2, k3⟩; have G1 := hide (grown_trans (grown_drew w none) k2); have hK1 := HS.out w1 G1.out; have HQ := hide (And.intro k1 k3); clear k1 k2 k3)
        | (go_at_call 40; have hq := HE.out _ (gn_drew (grown_alloc w (.cells #[.pointer none] 31))); refine hq.mono ?_; clear hq; rintro e w1 ⟨q, rfl, k1, k2, k3⟩; have G2 := hide (grown_trans (grown_drew (w.alloc (.cells #[.pointer none] 31)) none) k2); have hK1 := HS.out w1 (grown_trans (grown_alloc w _) G2.out); have HQ := hide (And.intro k1 k3); clear k1 k2 k3; have hbx : Boxed w1 w.heap.size 31 (.pointer none) := (Boxed.new w 31 _).kept G2.out (by simp); have v0 := hbx.cell; have v1 := hbx.frozen)))
    all_goals
      go_wp2
      go_meet
      case rel =>
        first
          | exact ⟨_, q, rfl, cp0_a HQ.out.1 G1.out HQ.out.2⟩
          | exact ⟨_, q, rfl, cp0_b HQ.out.1 G2.out (fun i hi => by have := HQ.out.2 i hi; simpa using this)⟩
  case rest =>
  obtain ⟨Bc, q, rfl, HC⟩ := hcut
  have HA' := hide (HA.out wc HC.out.gr)
  clear HA HE HS HN
  go_wp2_with fail
  refine HA'.out.mono ?_
  rintro e w3 ⟨u, rfl, ⟨B, so, cap, rfl, hI, hBq⟩, g3⟩
  have hz3 := g3.size
  have hgw := HC.out.gr.size
  have HQ : Hid (∀ i, vbk B so S.L.length i → wc.heap.size ≤ i ∧ i < w3.heap.size) := fun i hi => ⟨hBq i hi, hI.lt i hi⟩
  have hlo : q.Lo wc.heap.size := ⟨HC.out.bk.lt _ ⟨6, Bp.r6 (.inr (.inr (.inr rfl)))⟩, HC.out.bk.lt _ ⟨7, Bp.r7⟩⟩
  have I0 : Hid (CoI w w3 S Bc wc.heap.size w3.heap.size q.b []) := ⟨⟨q, rfl, HC.out.bk.then g3, hlo, fun i hi => .inl ⟨HC.out.own i hi, HC.out.bk.lt i hi⟩, HC.out.nb⟩, HC.out.bx.kept g3 (by simp), grown_trans HC.out.gr g3, Nat.le_refl _⟩
  have hBc : Bc < wc.heap.size := HC.out.bx.lt
  have hBc2 := HC.out.lo
  have HI := hide hI
  clear hI hBq HA' HC hlo g3
  go_wp2
  refine (wpIn_wide (n := 6)).1 (wpIn_range_V (w := w3) rfl (by decide) (gf := 82) (lb := #[.pointer (some ⟨B, 0, none⟩)]) rfl trivial (enters_of Tryz.func82 (by kernel_rfl) rfl)
    (encs := encB) (Kp := KpB (vbk B so S.L.length)) (V := fun pre x _ => pre ++ [x] <+: S.L) (S := fun ys => ys = S.L)
    (fun W hW => vt_seqV 5 (by decide) B so cap S.L (by omega) W (HI.out.grown hW))
    (fun h k => h.trans k) (fun W l o hl => KpB.put (fun hq => by have := (HQ.out l hq).2; omega)) (fun W W' _ hg => KpB.new hg) (fun _ => rfl)
    (fun pre => fun _ _ _ _ h _ _ => h)
    (fun pre W => CoI w W S Bc wc.heap.size w3.heap.size q.b pre) (fun _ _ _ => False)
    (CoI.own_from (by omega) hz3) (fun _ _ _ _ _ h _ _ => h) I0.out
    (fun x a' W => ∃ F, a' = { tmps := #[Value.pointer (some ⟨p.b, 0, none⟩), undef, Value.pointer none, Value.pointer (some ⟨Bc, 0, none⟩), Value.pointer (some ⟨F, 0, none⟩), Value.pointer (some ⟨p.b, 0, none⟩), Value.bool false, u7, u8, u9, u10, u11, u12, u13, u14, u15, u16, u17, u18, u19, u20, Value.pointer (some ⟨p.b, 0, none⟩), Value.func (Fn.func 82) #[] #[Value.pointer (some ⟨B, 0, none⟩)], bgV x, undef, undef, undef, undef], defers := [] } ∧ W.heap[F]? = some (.cells (bgc x).toArray 78 (0, 0)))
    (fun x => fun a' W W' row h hg hr => by obtain ⟨F, h1, h2⟩ := h; exact ⟨F, h1, cells_own_from w3.heap.size () W W' row h2 hg hr⟩) ?assign ?body ?done (fun _ _ _ _ _ h _ => h.elim))
  case assign =>
    rintro l pre ⟨xi, xs, xu⟩ W K hI hV hK
    simp only [encB, bgV]
    gi_wp2
    exact hK _ _ (grown_alloc W _) ⟨W.heap.size, rfl, heap_alloc_new W _⟩
  case body =>
    rintro l pre x a' W hI hV ⟨F, rfl, hF⟩
    obtain ⟨p1, p2, p3, p4, p5⟩ := pre_facts hV HW.out.asc HW.out.one
    obtain ⟨r, e, r1, r2, r3, r4⟩ := hI.bk
    have hwk : Sb.Wk { S with L := pre } := HW.out.sub p4 HW.out.t0 HW.out.t1
    have hx1 := HW.out.id x p1
    have hn1 := HW.out.n1
    have hxs := HW.out.st x p1
    have hfew := HW.out.few
    have hcall := add_any r1 hwk (by omega) x (by omega) hxs p2 p3 (show pre.length < S.b by omega)
    rw [e] at hcall
    have HCall : Hid (Calls Tryz.prog 42 #[.pointer (some ⟨q.b, 0, none⟩), bgV x] W fun e w' => e = .returned (.tuple #[]) ∧ ∀ a', ownPostG w3.heap.size (KpB (vbk B so S.L.length)) (fun pre W => CoI w W S Bc wc.heap.size w3.heap.size q.b pre) (fun _ _ _ => False) (pre ++ [x]) W .normal a' w') := by
      refine hcall.mono ?_
      rintro e1 w' ⟨rfl, r', k1, k2⟩
      refine ⟨rfl, fun a' => ⟨k2.keeps r1 (r2.mono hz3), KpB.of k2.kept (fun i hi e2 => ?_), ⟨⟨r', k2.b.trans e, by rw [List.length_append]; exact k1, k2.lo r2, fun i hi => ?_, fun e2 => ?_⟩, k2.kept.at hI.bx r4, ?_, Nat.le_trans hI.sz k2.kept.size⟩⟩⟩
      · have h1 := HQ.out i hi
        rcases r3 i e2 with h2 | h2 <;> omega
      · rcases k2.own i hi with h1 | h1
        · exact r3 i h1
        · exact .inr (Nat.le_trans hI.sz h1)
      · rcases k2.own _ e2 with h1 | h1
        · exact r4 h1
        · have := hI.bx.lt; omega
      · refine Kept.grown (((Kept.new hI.gr (fun i => w.heap.size ≤ i)).trans k2.kept (fun i hi e2 => ?_))) (fun i hi e2 => by omega)
        rcases r3 i e2 with h2 | h2
        · exact h2.1
        · omega
    have l0 := hI.bx.cell
    obtain ⟨f0, f1, f2, -⟩ := box3 hF
    clear hcall hI hV hF p1 p2 p3 p4 p5 r1 r2 r3 r4 hwk hx1 hn1 hxs hfew e
    obtain ⟨xi, xs, xu⟩ := x
    unfold bgV at *
    simp only at *
    gi_wp2_with fail
    refine ⟨trivial, ?_⟩
    refine (CallsIn.inRound l (callsIn_wide.2 HCall.out)).mono ?_
    rintro e w' ⟨rfl, hz⟩
    have HZ := hide hz
    clear hz HCall
    gi_wp2
    exact HZ.out _
  case done =>
    rintro D ys W hD rfl hI hK
    have l0 := hI.bx.cell
    have HX := hide (And.intro hI hK)
    clear hI hK
    go_wp2
    obtain ⟨hI, hK⟩ := HX.out
    refine ⟨by simp, .inl ⟨_, _, rfl, run_takeDeferred hK, ?_⟩⟩
    obtain ⟨r, e, r1, r2, r3, r4⟩ := hI.bk
    refine ⟨_, results_tmp rfl _ _ _, r, by rw [e]; rfl, (r1.far (Kept.of (grownBy_putObj' W D _) (S := fun i => i = D) (fun j e _ => (Option.some.inj e).symm)) (fun i hi e2 => r1.ctl_no (r2.mono hz3) (i := D) hD hK rfl (by rw [← e2]; exact hi))).mono hL4, ?_, fun i hi => ?_⟩
    · exact grown_then hI.gr (grownBy_putObj' _ D _) (fun j e => by cases e; exact Or.inl (by omega))
    · rcases r3 i hi with h1 | h1 <;> omega
end Go.Proofs.YtcbiloomnkbalaaGreatDoor
/- Rows of bookings, compared. -/
namespace Go.Proofs.YtcbiloomnkbalaaGreatDoor
open Go.RowKit
attribute [local go_sem ↓] Go.wp_at_zero Go.wp_at_succ
/-- Bookings that lie somewhere. -/
structure BgA (w : World) (v : Value) (X : List Bg) : Prop where
  ex : ∃ ao cap, v = .slice ao X.length cap ∧ ∀ i, i < X.length → ∃ g, ao = some ⟨g, 0, none⟩ ∧ w.cell? ⟨g, i * 3, none⟩ = some (.int .u32 ((rd X i).i : Int)) ∧ w.cell? ⟨g, i * 3 + 1, none⟩ = some (.int .i64 ((rd X i).s : Int)) ∧ w.cell? ⟨g, i * 3 + 2, none⟩ = some (.int .i64 (rd X i).u)
theorem BgA.then {w w' : World} {v : Value} {X : List Bg} (h : BgA w v X) (g : w.grownBy w' none) : BgA w' v X := by
  obtain ⟨ao, cap, h1, h2⟩ := h.ex
  refine ⟨ao, cap, h1, fun i hi => ?_⟩
  obtain ⟨a, e, c0, c1, c2⟩ := h2 i hi
  exact ⟨a, e, g.cell c0 (by simp), g.cell c1 (by simp), g.cell c2 (by simp)⟩
theorem BgA.own {w : World} {b : Nat} {v : Value} {X : List Bg} (h : w.ownsRow b 78 3 v X.length (bgs X)) : BgA w v X := by
  obtain ⟨vo, vcap, rfl, hle⟩ := Ix.own_form h
  refine ⟨vo, vcap, rfl, fun i hi => ?_⟩
  obtain ⟨q, c, cur, e1, e2, e3, e4, e5, e6, e7⟩ := Ix.own_row h (by omega)
  cases e1
  obtain ⟨b1, b2, b3⟩ := bgs_get hi
  refine ⟨_, rfl, ?_, ?_, ?_⟩
  · exact Ix.own_cell e3 e7 b1
  · exact Ix.own_cell e3 e7 b2
  · exact Ix.own_cell e3 e7 b3
theorem BgA.nil (w : World) : BgA w (.slice none 0 0) [] := ⟨none, 0, rfl, fun i hi => by simp at hi⟩
theorem take_all {X Y : List Bg} (hl : X.length = Y.length) (h : X.take X.length = Y.take X.length) : X = Y := by
  rw [List.take_length, hl, List.take_length] at h; exact h
theorem take_next {X Y : List Bg} {j : Nat} (hx : j < X.length) (hy : j < Y.length) (h : X.take j = Y.take j) (e : rd X j = rd Y j) : X.take (j + 1) = Y.take (j + 1) := by
  rw [← take_rd hx, ← take_rd hy, h, e]
theorem rd_ne {X Y : List Bg} {j : Nat} (h : rd X j ≠ rd Y j) : X ≠ Y := fun e => h (by rw [e])
set_option maxHeartbeats 4000000 in
theorem equal_any {w : World} {v u : Value} {X Y : List Bg} (hv : BgA w v X) (hu : BgA w u Y) (hX : X.length ≤ 65536) : Calls Tryz.prog 49 #[v, u] w fun e w' => e = .returned (.bool (decide (X = Y))) ∧ w.grownBy w' none := by
  obtain ⟨ao, c, rfl, hx⟩ := hv.ex
  obtain ⟨bo, d, rfl, hy⟩ := hu.ex
  clear hv hu
  by_cases hl : X.length = Y.length
  · have HA := hide (And.intro hx (And.intro hy hl))
    clear hx hy
    rw [← hl]
    obtain ⟨res, hres⟩ : ∃ res, decide (X = Y) = res := ⟨_, rfl⟩
    rw [hres]
    have HRes := hide hres
    clear hres hl
    generalize hn : X.length = n at *
    have HN := hide hn
    clear hn
    go_enter Tryz.func49, Tryz.ntmps49
    go_wp2
    go_loopg [13] n (fun k i wr => ∃ j : Nat, k + j = n ∧ i = .int .i64 j ∧ Hid (w.grownBy wr none ∧ X.take j = Y.take j))
    case atStart => exact ⟨0, by omega, rfl, grown_refl _ _, rfl⟩
    case round =>
      obtain ⟨j, hkj, rfl, HW⟩ := hrel
      by_cases hk : 0 < gk
      · have hj : j < X.length := by rw [HN.out]; omega
        have hjy : j < Y.length := by have := HA.out.2.2; omega
        obtain ⟨a, rfl, x0, x1, x2⟩ := HA.out.1 j (by omega)
        obtain ⟨b, rfl, y0, y1, y2⟩ := HA.out.2.1 j hjy
        have g := HW.out.1
        have x0 := g.cell x0 (by simp)
        have x1 := g.cell x1 (by simp)
        have x2 := g.cell x2 (by simp)
        have y0 := g.cell y0 (by simp)
        have y1 := g.cell y1 (by simp)
        have y2 := g.cell y2 (by simp)
        have HG := hide g
        have h1 : (0 : Int) ≤ (j : Int) := by omega
        have h2 : (j : Int) < (n : Int) := by omega
        by_cases e : rd X j = rd Y j
        · have HT := hide (take_next hj hjy HW.out.2 e)
          rw [← e] at y0 y1 y2
          clear e g HW hj hjy
          generalize ((rd X j).i : Int) = p at *
          generalize ((rd X j).s : Int) = q at *
          generalize (rd X j).u = r at *
          go_wp2
          go_quiet (fail)
          go_wp2
          go_roundg (gk - 1)
          case measure => omega
          case rel => exact ⟨j + 1, by omega, by go_num, grown_trans HG.out (grown_drewN _ _ _), HT.out⟩
        · have HD : Hid (res = false) := by rw [← HRes.out, decide_eq_false (rd_ne e)]; rfl
          have hne : ¬ ((rd X j).i = (rd Y j).i ∧ (rd X j).s = (rd Y j).s ∧ (rd X j).u = (rd Y j).u) := fun h => e (Bg.ext' h.1 h.2.1 h.2.2)
          clear e g HW hj hjy
          generalize (rd X j).i = p at *
          generalize (rd X j).s = q at *
          generalize (rd X j).u = r at *
          generalize (rd Y j).i = p' at *
          generalize (rd Y j).s = q' at *
          generalize (rd Y j).u = r' at *
          by_cases e1 : p = p'
          · subst e1
            by_cases e2 : q = q'
            · subst e2
              have e3 : ¬ r = r' := fun e3 => hne ⟨rfl, rfl, e3⟩
              have f1 : (r == r') = false := by simpa using e3
              have f2 : decide (r = r') = false := by simpa using e3
              clear hne
              go_wp2
              go_quiet (fail)
              go_wp2
              go_ret
              exact ⟨by rw [HD.out]; rfl, grown_trans HG.out (grown_drewN _ _ _)⟩
            · have f1 : ((q : Int) == (q' : Int)) = false := by simp; omega
              have f2 : decide ((q : Int) = (q' : Int)) = false := by simp; omega
              clear hne
              go_wp2
              go_quiet (fail)
              go_wp2
              go_ret
              exact ⟨by rw [HD.out]; rfl, grown_trans HG.out (grown_drewN _ _ _)⟩
          · have f1 : ((p : Int) == (p' : Int)) = false := by simp; omega
            have f2 : decide ((p : Int) = (p' : Int)) = false := by simp; omega
            clear hne
            go_wp2
            go_quiet (fail)
            go_wp2
            go_ret
            exact ⟨by rw [HD.out]; rfl, grown_trans HG.out (grown_drewN _ _ _)⟩
      · have hj : j = n := by omega
        subst hj
        have HD : Hid (res = true) := by
          rw [← HRes.out]
          exact decide_eq_true (take_all (HN.out.trans HA.out.2.2) (by rw [HN.out]; exact HW.out.2))
        go_wp2
        go_ret
        exact ⟨by rw [HD.out]; rfl, HW.out.1⟩
  · rw [decide_eq_false (fun e => hl (by rw [e]))]
    have f1 : ((X.length : Int) == (Y.length : Int)) = false := by simp; omega
    have f2 : decide ((X.length : Int) = (Y.length : Int)) = false := by simp; omega
    generalize X.length = n at *
    generalize Y.length = m at *
    clear hx hy
    go_enter Tryz.func49, Tryz.ntmps49
    go_wp2
    go_ret
    exact ⟨rfl, grown_refl _ _⟩
set_option maxHeartbeats 4000000 in
theorem sameBk_any {w : World} {v u : Value} {X Y : List Bg} (hv : BgA w v X) (hu : BgA w u Y) (hX : X.length ≤ 65536) : Calls Tryz.prog 37 #[v, u] w fun e w' => e = .returned (.bool (decide (X = Y))) ∧ w.grownBy w' none := by
  obtain ⟨ao, c, rfl, hx⟩ := hv.ex
  obtain ⟨bo, d, rfl, hy⟩ := hu.ex
  clear hv hu
  by_cases hl : X.length = Y.length
  · have HA := hide (And.intro hx (And.intro hy hl))
    clear hx hy
    rw [← hl]
    obtain ⟨res, hres⟩ : ∃ res, decide (X = Y) = res := ⟨_, rfl⟩
    rw [hres]
    have HRes := hide hres
    clear hres hl
    generalize hn : X.length = n at *
    have HN := hide hn
    clear hn
    go_enter Tryz.func37, Tryz.ntmps37
    go_wp2
    go_loopg [5] n (fun k i wr => ∃ j : Nat, k + j = n ∧ i = .int .i64 j ∧ Hid (w.grownBy wr none ∧ X.take j = Y.take j))
    case atStart => exact ⟨0, by omega, rfl, grown_refl _ _, rfl⟩
    case round =>
      obtain ⟨j, hkj, rfl, HW⟩ := hrel
      by_cases hk : 0 < gk
      · have hj : j < X.length := by rw [HN.out]; omega
        have hjy : j < Y.length := by have := HA.out.2.2; omega
        obtain ⟨a, rfl, x0, x1, x2⟩ := HA.out.1 j (by omega)
        obtain ⟨b, rfl, y0, y1, y2⟩ := HA.out.2.1 j hjy
        have g := HW.out.1
        have x0 := g.cell x0 (by simp)
        have x1 := g.cell x1 (by simp)
        have x2 := g.cell x2 (by simp)
        have y0 := g.cell y0 (by simp)
        have y1 := g.cell y1 (by simp)
        have y2 := g.cell y2 (by simp)
        have HG := hide g
        have h1 : (0 : Int) ≤ (j : Int) := by omega
        have h2 : (j : Int) < (n : Int) := by omega
        by_cases e : rd X j = rd Y j
        · have HT := hide (take_next hj hjy HW.out.2 e)
          rw [← e] at y0 y1 y2
          clear e g HW hj hjy
          generalize ((rd X j).i : Int) = p at *
          generalize ((rd X j).s : Int) = q at *
          generalize (rd X j).u = r at *
          go_wp2
          go_quiet (fail)
          go_wp2
          go_roundg (gk - 1)
          case measure => omega
          case rel => exact ⟨j + 1, by omega, by go_num, grown_trans HG.out (grown_drewN _ _ _), HT.out⟩
        · have HD : Hid (res = false) := by rw [← HRes.out, decide_eq_false (rd_ne e)]; rfl
          have hne : ¬ ((rd X j).i = (rd Y j).i ∧ (rd X j).s = (rd Y j).s ∧ (rd X j).u = (rd Y j).u) := fun h => e (Bg.ext' h.1 h.2.1 h.2.2)
          clear e g HW hj hjy
          generalize (rd X j).i = p at *
          generalize (rd X j).s = q at *
          generalize (rd X j).u = r at *
          generalize (rd Y j).i = p' at *
          generalize (rd Y j).s = q' at *
          generalize (rd Y j).u = r' at *
          by_cases e1 : p = p'
          · subst e1
            by_cases e2 : q = q'
            · subst e2
              have e3 : ¬ r = r' := fun e3 => hne ⟨rfl, rfl, e3⟩
              have f1 : (r == r') = false := by simpa using e3
              have f2 : decide (r = r') = false := by simpa using e3
              clear hne
              go_wp2
              go_quiet (fail)
              go_wp2
              go_ret
              exact ⟨by rw [HD.out]; rfl, grown_trans HG.out (grown_drewN _ _ _)⟩
            · have f1 : ((q : Int) == (q' : Int)) = false := by simp; omega
              have f2 : decide ((q : Int) = (q' : Int)) = false := by simp; omega
              clear hne
              go_wp2
              go_quiet (fail)
              go_wp2
              go_ret
              exact ⟨by rw [HD.out]; rfl, grown_trans HG.out (grown_drewN _ _ _)⟩
          · have f1 : ((p : Int) == (p' : Int)) = false := by simp; omega
            have f2 : decide ((p : Int) = (p' : Int)) = false := by simp; omega
            clear hne
            go_wp2
            go_quiet (fail)
            go_wp2
            go_ret
            exact ⟨by rw [HD.out]; rfl, grown_trans HG.out (grown_drewN _ _ _)⟩
      · have hj : j = n := by omega
        subst hj
        have HD : Hid (res = true) := by
          rw [← HRes.out]
          exact decide_eq_true (take_all (HN.out.trans HA.out.2.2) (by rw [HN.out]; exact HW.out.2))
        go_wp2
        go_ret
        exact ⟨by rw [HD.out]; rfl, HW.out.1⟩
  · rw [decide_eq_false (fun e => hl (by rw [e]))]
    have f1 : ((X.length : Int) == (Y.length : Int)) = false := by simp; omega
    have f2 : decide ((X.length : Int) = (Y.length : Int)) = false := by simp; omega
    generalize X.length = n at *
    generalize Y.length = m at *
    clear hx hy
    go_enter Tryz.func37, Tryz.ntmps37
    go_wp2
    go_ret
    exact ⟨rfl, grown_refl _ _⟩
end Go.Proofs.YtcbiloomnkbalaaGreatDoor
