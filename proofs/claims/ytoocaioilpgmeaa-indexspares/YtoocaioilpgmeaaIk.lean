/- told: what All tells, gathered. -/
import Derived.Test.YtoocaioilpgmeaaIj
import Derived.RangeFuncWrites
namespace Go.Proofs.Ytoocaioilpgmeaa
open Go.RowKit Ix Go.Shelf
attribute [local go_sem ↓] Go.wp_at_zero Go.wp_at_succ
attribute [local go_sem] Oper.semAt_some
def idV (M : List (Nat × Int)) : List Value := M.map fun x => Value.int .u64 (x.1 : Int)
def vlV (M : List (Nat × Int)) : List Value := M.map fun x => Value.int .i64 x.2
/-- Ids as they are turned. -/
def idW (M : List (Nat × Int)) : List Value := M.map fun x => Value.int .u64 (IntKind.u64.wrap (x.1 : Int))
theorem idW_snoc (M : List (Nat × Int)) (x : Nat × Int) : idW (M ++ [x]) = idW M ++ [.int .u64 (IntKind.u64.wrap (x.1 : Int))] := by simp [idW]
theorem idW_idV {M : List (Nat × Int)} (h : ∀ y ∈ M, y.1 < 18446744073709551616) : idW M = idV M := by
  unfold idW idV
  apply List.map_congr_left
  intro y hy
  rw [wrap_u64, Int.emod_eq_of_lt (by omega) (by have := h y hy; omega)]
theorem idV_snoc (M : List (Nat × Int)) (x : Nat × Int) : idV (M ++ [x]) = idV M ++ [.int .u64 (x.1 : Int)] := by simp [idV]
theorem vlV_snoc (M : List (Nat × Int)) (x : Nat × Int) : vlV (M ++ [x]) = vlV M ++ [.int .i64 x.2] := by simp [vlV]
theorem Try.info56 : (Try.prog.info? 56).map (fun i => (i.zero, i.size, i.bytes)) = some (some (.int .u64 0), 1, 8) := by kernel_rfl
theorem Try.info3 : (Try.prog.info? 3).map (fun i => (i.zero, i.size, i.bytes)) = some (some (.int .i64 0), 1, 8) := by kernel_rfl
theorem eqlNil64 (w : World) (f : Nat) (lb : Array Value) : (binOp .eql 64 (.func (.func f) #[] lb) .nilFunc).run Try.prog w = .ok (.bool false) w := by kernel_rfl
theorem cell_one (W : World) (a : Value) (t : TypeId) : ∀ j u, [a][j]? = some u → (W.alloc (.cells #[a] t)).cell? ((⟨W.heap.size, 0, none⟩ : Addr).add j) = some u := by
  intro j u hu
  rw [Addr.add_lit, Nat.zero_add, cell_row (heap_alloc_new W (.cells [a].toArray t))]
  exact hu
/-- The iterator's blocks stay. -/
def KpE (B : Nat) (so : Option Addr) (n : Nat) (W W' : World) : Prop := W'.heap[B]? = W.heap[B]? ∧ ∀ a, so = some a → n ≠ 0 → W'.heap[a.block]? = W.heap[a.block]?
theorem KpE.trans {B n : Nat} {so : Option Addr} {a b c : World} (h : KpE B so n a b) (k : KpE B so n b c) : KpE B so n a c := ⟨k.1.trans h.1, fun x e hn => (k.2 x e hn).trans (h.2 x e hn)⟩
theorem KpE.of {B n : Nat} {so : Option Addr} {W W' : World} {S : Nat → Prop} (k : Kept W W' S) (hB : B < W.heap.size) (hB2 : ¬ S B) (hso : ∀ a, so = some a → n ≠ 0 → a.block < W.heap.size ∧ ¬ S a.block) : KpE B so n W W' := ⟨k.block B hB hB2, fun a e hn => k.block _ (hso a e hn).1 (hso a e hn).2⟩
theorem ItE.keep {W W' : World} {B : Nat} {so : Option Addr} {cap : Nat} {X : List (Nat × Int)} (h : ItE W B so cap X) (k : KpE B so X.length W W') : ItE W' B so cap X :=
  ⟨k.1.trans h.box, h.le, fun i hi => by
    obtain ⟨q, h1, h2, h3⟩ := h.row i hi
    have hb : W'.heap[q]? = W.heap[q]? := k.2 _ h1 (by omega)
    refine ⟨q, h1, ?_, ?_⟩
    · unfold World.cell? at h2 ⊢; simp only [hb]; exact h2
    · unfold World.cell? at h3 ⊢; simp only [hb]; exact h3⟩
/-- A box whose row is appended to. -/
theorem box_app {W w1 : World} {B0 B : Nat} {t e : TypeId} {v v' : Value} {k m : Nat} {xs ys : List Value} {tmp : Obj}
    (hv : Boxed W B t v) (hte : t ≠ e) (hrow : W.ownsRow B0 e 1 v k xs) (hown' : w1.ownsRow B0 e 1 v' m ys) (hgrow : (W.alloc tmp).grownBy w1 v.ownBlock) :
    Boxed w1 B t v ∧ Boxed (w1.setCell ⟨B, 0, none⟩ v') B t v' ∧ (w1.setCell ⟨B, 0, none⟩ v').ownsRow B0 e 1 v' m ys ∧ KeepsOthers W (w1.setCell ⟨B, 0, none⟩ v') ∧ Kept W (w1.setCell ⟨B, 0, none⟩ v') (fun i => i = B ∨ v.ownBlock = some i) := by
  have hv1 : Boxed w1 B t v := (hv.alloc tmp).kept hgrow (hv.not_row hte hrow)
  refine ⟨hv1, hv1.set v', hown'.kept (grownBy_setCell' w1 B v') (.inr (hv1.not_row hte hown').symm), ?_, ?_⟩
  · refine ((KeepsOthers.alloc W tmp).trans (KeepsOthers.of_grownBy hgrow fun j o ej hj => ?_)).trans (KeepsOthers.setCell _ _ _)
    rcases (hrow.alloc tmp).2 with ⟨rfl, _⟩ | ⟨g, cap, cur, rfl, _, hgb, _⟩
    · simp [Value.ownBlock] at ej
    · obtain rfl : g = j := by simpa [Value.ownBlock] using ej
      rw [hgb] at hj; cases hj; rfl
  · exact ((Kept.new (World.grownBy_alloc W tmp none) (fun i => i = B ∨ v.ownBlock = some i)).trans (Kept.of hgrow (S := fun i => i = B ∨ v.ownBlock = some i) (fun j e _ => .inr e)) (fun _ _ e => e)).trans (kept_setCell w1 B 0 v') (fun i _ e => .inl e)
/-- Inside told, between two items. -/
structure TlI (w W : World) (B0 : Nat) (pre : List (Nat × Int)) : Prop where
  ids : ∃ v, Boxed W w.heap.size 30 v ∧ W.ownsRow B0 56 1 v pre.length (idW pre)
  vls : ∃ u, Boxed W (w.heap.size + 1) 31 u ∧ W.ownsRow B0 3 1 u pre.length (vlV pre)
  gr : w.grownBy W none
  sz : B0 ≤ W.heap.size
theorem own_own_from {base size : Nat} {e : TypeId} {v : Value} {n : Nat} {xs : List Value} (B : Nat) : OwnFrom B (fun (_ : Unit) W => W.ownsRow base e size v n xs) := fun _ W W' row h hg hr => by
  refine h.kept hg ?_
  rcases h.2 with ⟨e, _⟩ | ⟨g, cap, cur, e, _, hgg, _⟩
  · exact Or.inl (by rw [e]; rfl)
  · refine Or.inr (fun e' => ?_)
    rw [e] at e'
    obtain ⟨_, o, ho, hc⟩ := hr g e'.symm
    rw [hgg] at ho
    cases ho
    cases hc
theorem box_own_from {t : TypeId} {v : Value} {b : Nat} (B : Nat) : OwnFrom B (fun (_ : Unit) W => Boxed W b t v) := fun _ W W' row h hg hr => h.kept hg (fun e => by
  obtain ⟨_, o, ho, hc⟩ := hr b e.symm
  rw [show W.heap[b]? = _ from h] at ho
  cases ho
  cases hc)
theorem TlI.own_from {w : World} {B0 B : Nat} (hB : w.heap.size ≤ B) : OwnFrom B (fun pre W => TlI w W B0 pre) := fun pre W W' row h hg hr => by
  obtain ⟨v, hb, hf⟩ := h.ids
  obtain ⟨u, hc, ho⟩ := h.vls
  exact ⟨⟨v, box_own_from B () W W' row hb hg hr, own_own_from B () W W' row hf hg hr⟩, ⟨u, box_own_from B () W W' row hc hg hr, own_own_from B () W W' row ho hg hr⟩,
    grown_then h.gr hg (fun j e => Or.inl (Nat.le_trans hB (hr j e).1)), Nat.le_trans h.sz hg.size⟩
theorem own_base {W : World} {b b' : Nat} {e : TypeId} {size n : Nat} {v : Value} {xs : List Value} (h : W.ownsRow b e size v n xs) (hb : b' ≤ b) : W.ownsRow b' e size v n xs := by
  refine ⟨h.1, ?_⟩
  rcases h.2 with h2 | ⟨g, cap, cur, h2, h3, h4⟩
  · exact .inl h2
  · exact .inr ⟨g, cap, cur, h2, Nat.le_trans hb h3, h4⟩
theorem own_grown {W W' : World} {b : Nat} {e : TypeId} {size n : Nat} {v : Value} {xs : List Value} (h : W.ownsRow b e size v n xs) (g : W.grownBy W' none) : W'.ownsRow b e size v n xs :=
  row_keep h (fun q hq => by obtain ⟨_, cur, hc⟩ := own_block h hq; exact g.block q (row_lt hc) (by simp))
set_option maxRecDepth 100000 in
set_option maxHeartbeats 2000000 in
theorem told_of {w : World} {arg : Value} {M : List (Nat × Int)} (hM : M.length ≤ 65536) (hok : ∀ y ∈ M, y.1 < 18446744073709551616) (hall : ∀ W, w.grownBy W none → Calls Try.prog 27 #[arg] W fun e w' => ∃ v, e = .returned v ∧ AllV w' W.heap.size v M ∧ W.grownBy w' none) :
    Calls Try.prog 9 #[arg] w fun e w' => ∃ v u, e = .returned (.tuple #[v, u, .bool true]) ∧ w'.ownsRow w.heap.size 56 1 v M.length (idV M) ∧ w'.ownsRow w.heap.size 3 1 u M.length (vlV M) ∧ w.grownBy w' none := by
  have hnil := eqlNil64
  obtain ⟨w1, hw1⟩ : ∃ w1, w1 = (w.alloc (.cells #[.slice none 0 0] 30)).alloc (.cells #[.slice none 0 0] 31) := ⟨_, rfl⟩
  have g1 : w.grownBy w1 none := by rw [hw1]; exact grown_trans (World.grownBy_alloc w _ none) (World.grownBy_alloc _ _ none)
  have b1 : Boxed w1 w.heap.size 30 (.slice none 0 0) := by rw [hw1]; exact (Boxed.new w 30 (.slice none 0 0)).alloc _
  have b2 : Boxed w1 (w.heap.size + 1) 31 (.slice none 0 0) := by
    have := Boxed.new (w.alloc (.cells #[.slice none 0 0] 30)) 31 (.slice none 0 0)
    rw [World.size_alloc] at this
    rw [hw1]; exact this
  have hsz1 : w1.heap.size = w.heap.size + 2 := by rw [hw1]; simp
  have hc := hall w1 g1
  have H1 := hide (And.intro hw1 (And.intro g1 (And.intro b1 (And.intro b2 hsz1))))
  have HM := hide (And.intro hM hok)
  clear hall hw1 g1 b1 b2 hsz1 hM hok
  refine (callsIn_wide (n := 6)).1 (callsIn_of_wp_marks Try.func9 rfl trivial ?_ rfl)
  simp only [Try.ntmps9, List.size_toArray, List.length_cons, List.length_nil, Nat.reduceAdd, Nat.reduceSub, Array.replicate_succ, Array.replicate_zero, List.push_toArray, List.append_toArray, List.nil_append, List.cons_append]
  refine wpIn_wide.2 ?_
  go_wp2_with fail
  rw [← H1.out.1]
  refine hc.mono ?_
  clear hc
  rintro e w2 ⟨v, rfl, ⟨B, so, cap, rfl, hI, hB0, hso⟩, g2⟩
  have hBl := row_lt hI.box
  have hgz := g2.size
  obtain ⟨i5, hi5, hz50, hz51, hz52⟩ := info_parts Try.info56
  obtain ⟨i3, hi3, hz30, hz31, hz32⟩ := info_parts Try.info3
  have H5 := hide (And.intro hi5 (And.intro hz50 (And.intro hz51 hz52)))
  have H3 := hide (And.intro hi3 (And.intro hz30 (And.intro hz31 hz32)))
  have hsl : ∀ a, so = some a → M.length ≠ 0 → a.block < w2.heap.size := fun a ha hm => by
    obtain ⟨q, h1, h2, _⟩ := hI.row 0 (by omega)
    rw [h1] at ha
    cases ha
    unfold World.cell? at h2
    cases hq : w2.heap[q]? with
    | none => simp [hq] at h2
    | some o => exact row_lt hq
  have hsz1 := H1.out.2.2.2.2
  have I0 : Hid (TlI w w2 w2.heap.size []) := ⟨⟨_, H1.out.2.2.1.kept g2 (by simp), World.ownsRow_nil _ _ _ _⟩, ⟨_, H1.out.2.2.2.1.kept g2 (by simp), World.ownsRow_nil _ _ _ _⟩, grown_trans H1.out.2.1 g2, Nat.le_refl _⟩
  have HI := hide (And.intro hI (And.intro hB0 (And.intro hso (And.intro hBl (And.intro hgz (And.intro hsl hsz1))))))
  clear hI hB0 hso hBl hgz hsl hsz1 g2 hi5 hz50 hz51 hz52 hi3 hz30 hz31 hz32
  go_wp2
  refine (wpIn_wide (n := 6)).1 (wpIn_rangeFunc_ownG (w := w2) rfl (by decide) (gf := 41) (lb := #[.pointer (some ⟨B, 0, none⟩)]) rfl trivial (enters_of Try.func41 (by kernel_rfl) rfl)
    (it_stops (KpE B so M.length) (fun W => ItE W B so cap M) 5 (by decide) B so cap M HM.out.1 w2 (fun _ h => h) (fun W W' k h => h.keep k) (fun W W' g h => h.grown g) (fun W hW => HI.out.1.grown (below_grown hW)))
    (fun h k => h.trans k) ?put (Below.refl _ _) (fun _ => rfl)
    (fun pre W => TlI w W w2.heap.size pre) (fun _ _ _ => False)
    (TlI.own_from (by have := HI.out.2.2.2.2.1; have := HI.out.2.2.2.2.2.2; omega)) (fun _ _ _ _ _ h _ _ => h) I0.out
    (fun x => { tmps := #[arg, undef, Value.slice none 0 0, Value.slice none 0 0, Value.bool false, Value.pointer (some ⟨w.heap.size, 0, none⟩), Value.pointer (some ⟨w.heap.size + 1, 0, none⟩), Value.func (Fn.func 41) #[] #[Value.pointer (some ⟨B, 0, none⟩)], .int .u32 (x.1 : Int), .int .i64 x.2, arg, Value.func (Fn.func 41) #[] #[Value.pointer (some ⟨B, 0, none⟩)], Value.func (Fn.func 41) #[] #[Value.pointer (some ⟨B, 0, none⟩)], Value.bool false, Value.func (Fn.func 41) #[] #[Value.pointer (some ⟨B, 0, none⟩)], .int .u32 (x.1 : Int), .int .i64 x.2, undef, undef, undef, undef, undef, undef, undef, undef, undef, undef, undef], defers := [] }) ?assign ?body ?done (fun _ _ _ _ _ _ h _ => h.elim))
  case put =>
    intro W l o o' hl ho _ _
    have hll := row_lt ho
    refine KpE.of (Kept.of (grownBy_putObj' W l o') (S := fun i => i = l) (fun j e _ => (Option.some.inj e).symm)) (by have := HI.out.2.2.2.1; omega) (by have := HI.out.2.2.2.1; omega) (fun a ha hn => ?_)
    have := HI.out.2.2.2.2.2.1 a ha hn
    constructor <;> omega
  case assign =>
    intro l x W K hK
    simp only [encE]
    gi_wp2
    exact hK
  case body =>
    rintro l pre ⟨x1, x2⟩ W hI hlt
    obtain ⟨v, hb1, hr1⟩ := hI.ids
    obtain ⟨u, hb2, hr2⟩ := hI.vls
    obtain ⟨ro, rc, rfl, -⟩ := own_form hr1
    obtain ⟨uo, uc, rfl, -⟩ := own_form hr2
    have c1 := hb1.cell
    have hplen : pre.length ≤ 65536 := by have := HM.out.1; omega
    have hWsz := hI.sz
    have hgsz := hI.gr.size
    have HX := hide (And.intro hI (And.intro hb1 (And.intro hr1 (And.intro hb2 hr2))))
    clear hI hb1 hr1 hb2 hr2
    simp only
    obtain ⟨z, hz⟩ : ∃ z, z = IntKind.u64.wrap (x1 : Int) := ⟨_, rfl⟩
    have HC := hide (cell_one W (.int .u64 z) 56)
    have hz2 := hz.symm
    have HZ := hide hz
    clear hz
    gi_wp2_with (gi_at_builtin; refine wpListIn_append_own _ rfl (.tmp 17) (.tmp 20) 30 rfl w2.heap.size 56 i5 (.int .u64 0) 1 8 Try.underlying30 H5.out.1 H5.out.2.1 H5.out.2.2.1 H5.out.2.2.2 rfl (by decide) (.slice ro pre.length rc) pre.length (idW pre) rfl (HX.out.2.2.1.alloc _) ⟨W.heap.size, 0, none⟩ 1 1 [.int .u64 z] rfl rfl HC.out (by simp [Value.oneCell']) (by unfold maxLen; omega) (by omega) (by simp; omega) ?_)
    intro v' w3 ho hg hne
    obtain ⟨hI, hb1, hr1, hb2, hr2⟩ := HX.out
    obtain ⟨q1, q2, q3, q4, q5⟩ := box_app hb1 (by decide) hr1 ho hg
    have hrow1 : ∀ k, (Value.slice ro pre.length rc).ownBlock = some k → w2.heap.size ≤ k ∧ ∃ cur : Array Value, W.heap[k]? = some (.cells cur 56 (0, 0)) := fun k hk => own_block hr1 hk
    have hsz := HI.out.2.2.2.2.1
    have hsz2 := HI.out.2.2.2.2.2.2
    have p2 : Boxed (w3.setCell ⟨w.heap.size, 0, none⟩ v') (w.heap.size + 1) 31 (.slice uo pre.length uc) := q5.at hb2 (by
      rintro (e | e)
      · omega
      · have := (hrow1 _ e).1; omega)
    have p3 : (w3.setCell ⟨w.heap.size, 0, none⟩ v').ownsRow w2.heap.size 3 1 (.slice uo pre.length uc) pre.length (vlV pre) := row_keep hr2 (fun k hk => by
      obtain ⟨h1, cur, hc⟩ := own_block hr2 hk
      refine q5.block k (row_lt hc) ?_
      rintro (e | e)
      · omega
      · obtain ⟨_, cur2, hc2⟩ := hrow1 k e; rw [hc] at hc2; simp at hc2)
    have hkp1 : KpE B so M.length W (w3.setCell ⟨w.heap.size, 0, none⟩ v') := KpE.of q5 (by have := HI.out.2.2.2.1; omega) (by
      have h1 := HI.out.2.2.2.1
      have h2 := HI.out.2.1
      rintro (e | e)
      · omega
      · have := (hrow1 _ e).1; omega) (fun a ha hn => by
      have h1 := HI.out.2.2.2.2.2.1 a ha hn
      have h2 := HI.out.2.2.1 a ha
      refine ⟨by omega, ?_⟩
      rintro (e | e)
      · omega
      · have := (hrow1 _ e).1; omega)
    have g4 : w.grownBy (w3.setCell ⟨w.heap.size, 0, none⟩ v') none := by
      refine Kept.grown (((Kept.new hI.gr (fun i => w.heap.size ≤ i)).trans q5 ?_)) (fun i hi e => by omega)
      rintro i hi (e | e)
      · omega
      · have := (hrow1 _ e).1; omega
    obtain ⟨ro', rc', rfl, -⟩ := own_form ho
    have c1' := q1.cell
    have f1' := q1.frozen
    have c2 := p2.cell
    have hsz4 : w2.heap.size ≤ (w3.setCell ⟨w.heap.size, 0, none⟩ (.slice ro' (pre.length + 1) rc')).heap.size := Nat.le_trans hWsz q5.size
    have HY := hide (And.intro q2 (And.intro q3 (And.intro q4 (And.intro p2 (And.intro p3 (And.intro hkp1 (And.intro g4 hsz4)))))))
    have hw4 : w.heap.size + 2 ≤ (w3.setCell ⟨w.heap.size, 0, none⟩ (.slice ro' (pre.length + 1) rc')).heap.size := by omega
    clear hI hb1 hr1 hb2 hr2 q1 q2 q3 q4 q5 p2 p3 hkp1 g4 hrow1 ho hg hne HX HC
    generalize hW4 : w3.setCell ⟨w.heap.size, 0, none⟩ (.slice ro' (pre.length + 1) rc') = w4 at *
    have HC2 := hide (cell_one w4 (.int .i64 x2) 3)
    gi_wp2_with (gi_at_builtin; refine wpListIn_append_own _ rfl (.tmp 22) (.tmp 24) 31 rfl w2.heap.size 3 i3 (.int .i64 0) 1 8 Try.underlying31 H3.out.1 H3.out.2.1 H3.out.2.2.1 H3.out.2.2.2 rfl (by decide) (.slice uo pre.length uc) pre.length (vlV pre) rfl (HY.out.2.2.2.2.1.alloc _) ⟨w4.heap.size, 0, none⟩ 1 1 [.int .i64 x2] rfl rfl HC2.out (by simp [Value.oneCell']) (by unfold maxLen; omega) (by omega) (by simp; omega) ?_)
    intro u' w5 ho hg hne
    obtain ⟨q2, q3, q4, p2, p3, hkp1, g4, _⟩ := HY.out
    obtain ⟨s1, s2, s3, s4, s5⟩ := box_app p2 (by decide) p3 ho hg
    have hrow2 : ∀ k, (Value.slice uo pre.length uc).ownBlock = some k → w2.heap.size ≤ k ∧ ∃ cur : Array Value, w4.heap[k]? = some (.cells cur 3 (0, 0)) := fun k hk => own_block p3 hk
    have c5 := s1.cell
    have f5 := s1.frozen
    have HZZ : Hid (ownPostG w2.heap.size (KpE B so M.length) (fun pre W => TlI w W w2.heap.size pre) (fun _ _ _ => False) (pre ++ [(x1, x2)]) W .normal { tmps := #[], defers := [] } (w5.setCell ⟨w.heap.size + 1, 0, none⟩ u')) := by
      refine ⟨(q4.trans s4).from _, hkp1.trans (KpE.of s5 (by have := HI.out.2.2.2.1; omega) ?_ (fun a ha hn => ?_)), ⟨⟨_, s5.at q2 ?_, ?_⟩, ⟨_, s2, ?_⟩, ?_, Nat.le_trans hsz4 s5.size⟩⟩
      · have h1 := HI.out.2.2.2.1
        have h2 := HI.out.2.1
        rintro (e | e)
        · omega
        · have := (hrow2 _ e).1; omega
      · have h1 := HI.out.2.2.2.2.2.1 a ha hn
        have h2 := HI.out.2.2.1 a ha
        refine ⟨by omega, ?_⟩
        rintro (e | e)
        · omega
        · have := (hrow2 _ e).1; omega
      · rintro (e | e)
        · omega
        · have := (hrow2 _ e).1; omega
      · rw [idW_snoc, ← HZ.out, List.length_append]
        refine row_keep q3 (fun k hk => ?_)
        obtain ⟨h1, cur, hc⟩ := own_block q3 hk
        refine s5.block k (row_lt hc) ?_
        rintro (e | e)
        · omega
        · obtain ⟨_, cur2, hc2⟩ := hrow2 k e; rw [hc] at hc2; simp at hc2
      · rw [vlV_snoc, List.length_append]
        exact s3
      · refine Kept.grown (((Kept.new g4 (fun i => w.heap.size ≤ i)).trans s5 ?_)) (fun i hi e => by omega)
        rintro i hi (e | e)
        · omega
        · have := (hrow2 _ e).1; omega
    obtain ⟨uo', uc', rfl, -⟩ := own_form ho
    clear q2 q3 q4 p2 p3 hkp1 g4 s1 s2 s3 s4 s5 hrow2 ho hg hne HY HC2 hsz4 hw4
    gi_wp2
    exact HZZ.out
  case done =>
    rintro D ys W hD rfl hI hK
    obtain ⟨v, hb9, hfs⟩ := hI.ids
    obtain ⟨u, hb10, hus⟩ := hI.vls
    have c9 := hb9.cell
    have c10 := hb10.cell
    have HX := hide (And.intro hI (And.intro hfs (And.intro hus hK)))
    obtain ⟨ro, rc, rfl, -⟩ := own_form hfs
    obtain ⟨uo, uc, rfl, -⟩ := own_form hus
    clear hI hb9 hfs hb10 hus hK
    go_wp2
    go_quiet (fail)
    go_wp2
    obtain ⟨hI, hfs, hus, hK⟩ := HX.out
    have hsz := HI.out.2.2.2.2.1
    have hsz2 := HI.out.2.2.2.2.2.2
    have hKd : (W.drewN nq).heap[D]? = some (.deferred (some [])) := hK
    refine ⟨by simp, .inl ⟨_, _, rfl, run_takeDeferred hKd, ?_⟩⟩
    have hf2 := ownsRow_putObj (own_grown (own_base hfs (show w.heap.size ≤ w2.heap.size by omega)) (grown_drewN W nq none)) (.deferred none) hKd rfl
    have hu2 := ownsRow_putObj (own_grown (own_base hus (show w.heap.size ≤ w2.heap.size by omega)) (grown_drewN W nq none)) (.deferred none) hKd rfl
    rw [idW_idV HM.out.2] at hf2
    refine ⟨_, results_tmp3 rfl _ _ _, _, _, rfl, hf2, hu2, ?_⟩
    exact grown_then (grown_trans hI.gr (grown_drewN W nq none)) (grownBy_putObj' _ D _) (fun j e => by cases e; exact Or.inl (by omega))
end Go.Proofs.Ytoocaioilpgmeaa
