/- The contract of told. -/
import Derived.Test.YtoeehajdmdmemaaDoorTo
namespace Go.Proofs.YtoeehajdmdmemaaDoor
open Go.RowKit Go.Shelf
attribute [local go_sem] Oper.semAt_some

/-- Inside told, between two frames. -/
structure TlI (w W : World) (B0 B9 B10 n : Nat) (pre : List El) : Prop where
  row : ∃ v, Boxed W B9 41 v ∧ FsAt W B0 v pre
  pla : ∃ u, Boxed W B10 47 u ∧ W.ownsRow B0 3 1 u pre.length (ints (plc (frs pre)))
  gr : w.grownBy W none
  short : fend (frs pre) ≤ n
theorem own_own_from {base size : Nat} {e : TypeId} {v : Value} {n : Nat} {xs : List Value} (B : Nat) : OwnFrom B (fun (_ : Unit) W => W.ownsRow base e size v n xs) := fun _ W W' row h hg hr => by
  refine h.kept hg ?_
  rcases h.2 with ⟨e, _⟩ | ⟨g, cap, cur, e, _, hgg, _⟩
  · exact Or.inl (by rw [e]; rfl)
  · refine Or.inr (fun e' => ?_)
    rw [e] at e'
    obtain ⟨_, o, ho, hc⟩ := hr g e'.symm
    rw [hgg] at ho
    cases ho
    cases hc
theorem TlI.own_from {w : World} {B0 B9 B10 n B : Nat} (hB : w.heap.size ≤ B) : OwnFrom B (fun pre W => TlI w W B0 B9 B10 n pre) := fun pre W W' row h hg hr => by
  obtain ⟨v, hb, hf⟩ := h.row
  obtain ⟨u, hc, ho⟩ := h.pla
  exact ⟨⟨v, cells_own_from (β := Unit) B B9 _ 41 _ () W W' row hb hg hr, FsAt.own_from B pre W W' row hf hg hr⟩, ⟨u, cells_own_from (β := Unit) B B10 _ 47 _ () W W' row hc hg hr, own_own_from B () W W' row ho hg hr⟩,
    grown_then h.gr hg (fun j e => Or.inl (Nat.le_trans hB (hr j e).1)), h.short⟩

set_option maxRecDepth 100000 in
set_option maxHeartbeats 2000000 in
theorem told_any (ao : Option Addr) (n cap : Nat) (xs : List Int) (E S : Int) (w : World) (h : Src w ao n cap xs) (hS0 : 0 ≤ S) (hS1 : S < 18446744073709551616) (hb : n ≤ 1099511627776) :
    Calls Tryd.prog 29 #[.slice ao n cap, .int .u64 E, .int .u64 S] w fun e w' => ∃ v u ys, e = .returned (.tuple #[v, u, .bool true]) ∧ frs ys = rowF E S xs ∧ FsAt w' w.heap.size v ys ∧ w'.ownsRow w.heap.size 3 1 u ys.length (ints (plc (rowF E S xs))) ∧ w.grownBy w' none := by
  have H := hide h
  have h0 := tab_lt h.tab
  have hnil := eqlNil45
  clear h
  refine (callsIn_wide (n := 6)).1 (callsIn_of_wp_marks Tryd.func29 rfl trivial ?_ rfl)
  simp only [Tryd.ntmps29, List.size_toArray, List.length_cons, List.length_nil, Nat.reduceAdd, Nat.reduceSub, Array.replicate_succ, Array.replicate_zero, List.push_toArray, List.append_toArray, List.nil_append, List.cons_append]
  refine wpIn_wide.2 ?_
  have hg1 : w.grownBy ((w.alloc (.cells #[.slice none 0 0] 41)).alloc (.cells #[.slice none 0 0] 47)) none := grown_trans (World.grownBy_alloc w _ none) (World.grownBy_alloc _ _ none)
  have b9 : Boxed ((w.alloc (.cells #[.slice none 0 0] 41)).alloc (.cells #[.slice none 0 0] 47)) w.heap.size 41 (.slice none 0 0) := (Below.heap_alloc _ _ _ (by simp)).trans (Boxed.new w 41 (.slice none 0 0))
  have b10 : Boxed ((w.alloc (.cells #[.slice none 0 0] 41)).alloc (.cells #[.slice none 0 0] 47)) (w.heap.size + 1) 47 (.slice none 0 0) := by
    have := Boxed.new (w.alloc (.cells #[.slice none 0 0] 41)) 47 (.slice none 0 0)
    rwa [World.size_alloc] at this
  have H1 := hide (And.intro hg1 (And.intro b9 b10))
  clear hg1 b9 b10
  have hsz1 : ((w.alloc (.cells #[.slice none 0 0] 41)).alloc (.cells #[.slice none 0 0] 47)).heap.size = w.heap.size + 2 := by simp
  go_wp2_with fail
  generalize ((w.alloc (.cells #[.slice none 0 0] 41)).alloc (.cells #[.slice none 0 0] 47)) = w1 at *
  refine (each_any ao n cap xs E S w1 (H.out.grown H1.out.1) hS0 hS1).mono ?_
  rintro e w2 ⟨Bs, Bb, Be, bo, bc, rfl, hI, h1, h2, h3, h4, hg⟩
  have I0 : Hid (TlI w w2 w2.heap.size w.heap.size (w.heap.size + 1) n []) := ⟨⟨_, (hg.block _ (by omega) (by simp)).trans H1.out.2.1, FsAt.nil _ _⟩, ⟨_, (hg.block _ (by omega) (by simp)).trans H1.out.2.2, World.ownsRow_nil _ _ _ _⟩, grown_trans H1.out.1 hg, by simp [fend, frs]⟩
  have hsz2 : w.heap.size + 2 ≤ w2.heap.size := by have := hg.size; omega
  have HI := hide hI
  have HL2 : Hid (∀ k, itQ Bs Bb Be (liveA bo xs) k → k < w2.heap.size) := itQ_lt hI
  have HQ : Hid (∀ k, w.heap.size ≤ k → k < w.heap.size + 2 → ¬ itQ Bs Bb Be (liveA bo xs) k) := by
    rintro k k1 k2 (e | e | e | e | ⟨a, ha, e⟩)
    · omega
    · omega
    · omega
    · omega
    · have := h4 a (liveA_some ha).1; omega
  clear hI hg H1 h4
  unfold itV
  obtain ⟨i0, hi, hz0, hz1, hz2⟩ := info_parts Tryd.info25
  have HI25 := hide (And.intro hi (And.intro hz0 (And.intro hz1 hz2)))
  clear hi hz0 hz1 hz2
  obtain ⟨i3, hi, hz0, hz1, hz2⟩ := info_parts Tryd.info3
  have HI3 := hide (And.intro hi (And.intro hz0 (And.intro hz1 hz2)))
  clear hi hz0 hz1 hz2
  go_wp2
  refine (wpIn_wide (n := 6)).1 (wpIn_range_V (w := w2) rfl (by decide) (gf := 59) (lb := #[.pointer (some ⟨Bs, 0, none⟩), .pointer (some ⟨Bb, 0, none⟩), .pointer (some ⟨Be, 0, none⟩)]) rfl trivial (enters_of Tryd.func59 (by kernel_rfl) rfl)
    (encs := El.enc) (Kp := Keeps (itQ Bs Bb Be (liveA bo xs))) (V := ElV w2.heap.size E S xs) (S := fun ys => frs ys = rowF E S xs)
    (fun W hW => row_seqV _ 5 (by decide) Bs Bb Be bo n bc xs E S (fun _ _ h => h) w2.heap.size W (HI.out.grown hW) hW.size)
    (fun h k => h.trans k) (fun W l o hl => Keeps.putObj W l o (fun hq => by have := HL2.out l hq; omega)) (fun W W' _ hg => Keeps.of hg (fun _ e => by cases e)) (fun _ => rfl)
    (fun pre => ElV.own_from _ _ _ _ _ pre)
    (fun pre W => TlI w W w2.heap.size w.heap.size (w.heap.size + 1) n pre ∧ w2.heap.size ≤ W.heap.size) (fun _ _ _ => False)
    (fun s W W' row h hg hr => ⟨TlI.own_from (by omega) s W W' row h.1 hg hr, Nat.le_trans h.2 hg.size⟩) (fun _ _ _ _ _ h _ _ => h) ⟨I0.out, Nat.le_refl _⟩
    (fun x a' W => ∃ F v9, a' = { tmps := #[Value.slice ao n cap, Value.int .u64 E, Value.int .u64 S, undef, undef, undef,
          Value.slice none 0 0, Value.slice none 0 0, Value.bool false, Value.pointer (some ⟨w.heap.size, 0, none⟩),
          Value.pointer (some ⟨w.heap.size + 1, 0, none⟩), Value.func (Fn.func 59) #[] #[Value.pointer (some ⟨Bs, 0, none⟩), Value.pointer (some ⟨Bb, 0, none⟩), Value.pointer (some ⟨Be, 0, none⟩)], .int .i64 (x.at_ : Int), .pointer (some ⟨F, 0, none⟩), Value.slice ao n cap,
          Value.int .u64 E, Value.int .u64 S, Value.func (Fn.func 59) #[] #[Value.pointer (some ⟨Bs, 0, none⟩), Value.pointer (some ⟨Bb, 0, none⟩), Value.pointer (some ⟨Be, 0, none⟩)], Value.func (Fn.func 59) #[] #[Value.pointer (some ⟨Bs, 0, none⟩), Value.pointer (some ⟨Bb, 0, none⟩), Value.pointer (some ⟨Be, 0, none⟩)], Value.bool false, undef, undef, Value.func (Fn.func 59) #[] #[Value.pointer (some ⟨Bs, 0, none⟩), Value.pointer (some ⟨Bb, 0, none⟩), Value.pointer (some ⟨Be, 0, none⟩)],
          .int .i64 (x.at_ : Int), frV x.f.e x.f.s x.v, undef, undef, undef, undef, undef, undef, undef, undef, undef, undef], defers := [] } ∧ W.heap[F]? = some (.cells [Value.int .u64 x.f.e, .int .u64 x.f.s, x.v].toArray 25 (0, 0)) ∧ w2.heap.size ≤ F ∧ Boxed W w.heap.size 41 v9 ∧ (∀ k, v9.ownBlock = some k → k ≠ F))
    (fun x a' W W' row h hg hr => by obtain ⟨F, v9, ha, hF, hl, hb, hk⟩ := h; exact ⟨F, v9, ha, cells_own_from (β := Unit) _ F _ 25 _ () W W' row hF hg hr, hl, cells_own_from (β := Unit) _ w.heap.size _ 41 _ () W W' row hb hg hr, hk⟩)
    ?assign ?body ?done (fun _ _ _ _ _ h _ => h.elim))
  case assign =>
    intro l pre x W K hI hV hK
    have hsz : w2.heap.size ≤ W.heap.size := hI.2
    obtain ⟨vo, vc, hvf⟩ := own_form hV.lies.own
    simp only [El.enc, frV]
    rw [hvf]
    gi_wp2
    rw [← hvf]
    obtain ⟨v9, hb9, hf9⟩ := hI.1.row
    refine hK _ _ (World.grownBy_alloc W _ none) ⟨_, v9, rfl, heap_alloc_new W _, hsz, (Below.heap_alloc _ _ _ hb9.lt).trans hb9, fun k hk => ?_⟩
    have := (hf9.own.lt k hk).2
    omega
  case body =>
    rintro l pre ⟨at_, ⟨e, s, b⟩, v, lo, hi⟩ a' W ⟨hI, hsz⟩ hV ⟨F, v9, rfl, hF, hFl, hb9', hk9⟩
    obtain ⟨vo, vc, hvf⟩ := own_form hV.lies.own
    simp only at hvf
    subst hvf
    obtain ⟨vr, hb9, hfs⟩ := hI.row
    obtain ⟨ur, hb10, hus⟩ := hI.pla
    obtain rfl : v9 = vr := by
      have := (show W.heap[w.heap.size]? = _ from hb9').symm.trans (show W.heap[w.heap.size]? = _ from hb9)
      simpa using this
    obtain ⟨ro, rc, rfl⟩ := own_form hfs.own
    obtain ⟨uo, uc, rfl⟩ := own_form hus
    have HK9 := hide hk9
    clear hb9' hk9
    have c9 := hb9.cell
    obtain ⟨d0, d1, d2⟩ := box_cells hF
    have h22 := fend_len (frs pre)
    rw [frs_length] at h22
    have hfit : pre.length * 22 ≤ n := by have := hI.short; omega
    have hat := hV.place
    simp only at hat
    have HX := hide (And.intro hI (And.intro hV (And.intro hF (And.intro hb9 (And.intro hfs (And.intro hb10 hus))))))
    simp only [frV]
    clear hI hV hF hb9 hfs hb10 hus
    gi_wp2_with (gi_at_builtin; refine wpListIn_append_own _ rfl (.tmp 25) (.tmp 27) 41 rfl w2.heap.size 25 i0 (.agg #[.int .u64 0, .int .u64 0, .slice none 0 0]) 3 40 Tryd.underlying41 HI25.out.1 HI25.out.2.1 HI25.out.2.2.1 HI25.out.2.2.2 rfl (by decide) (.slice ro pre.length rc) pre.length (fcl pre) rfl (own_grown HX.out.2.2.2.2.1.own (World.grownBy_alloc W _ none)) ⟨W.heap.size, 0, none⟩ 1 1 [.int .u64 e, .int .u64 s, .slice vo b.length vc] rfl rfl (cell3_new _ _ _ _ _) (by simp [Value.oneCell']) (by unfold maxLen; omega) (by omega) (by simp; omega) ?_)
    intro v' w1 ho hg hne
    obtain ⟨hI, hV, hF, hb9, hfs, hb10, hus⟩ := HX.out
    have hga := World.grownBy_alloc W (.cells #[.int .u64 e, .int .u64 s, .slice vo b.length vc] 25) none
    have hrow : ∀ k, (Value.slice ro pre.length rc).ownBlock = some k → w2.heap.size ≤ k := fun k hk => (hfs.own.lt k hk).1
    have hp : FsAt w1 w2.heap.size v' (pre ++ [⟨at_, ⟨e, s, b⟩, .slice vo b.length vc, lo, hi⟩]) :=
      (hfs.grown hga).push (by exact ho) hg (hV.lies.grown hga) hV.lo hV.ok hV.short hV.later
    have hkeep : ∀ k, k < W.heap.size → (Value.slice ro pre.length rc).ownBlock ≠ some k → w1.heap[k]? = W.heap[k]? := fun k hk hne => (hg.block k (by simp; omega) (fun e => hne e.symm)).trans (hga.block k hk (by simp))
    have b9 : Boxed w1 w.heap.size 41 (.slice ro pre.length rc) := (hkeep _ hb9.lt (fun e => by have := hrow _ e; omega)).trans hb9
    have b10 : Boxed w1 (w.heap.size + 1) 47 (.slice uo pre.length uc) := (hkeep _ hb10.lt (fun e => by have := hrow _ e; omega)).trans hb10
    have hu1 : w1.ownsRow w2.heap.size 3 1 (.slice uo pre.length uc) pre.length (ints (plc (frs pre))) := by
      cases hq : (Value.slice ro pre.length rc).ownBlock with
      | none => rw [hq] at hg; exact own_grown (own_grown hus hga) hg
      | some k =>
        rw [hq] at hg
        obtain ⟨c, hc⟩ := own_cells (hfs.grown hga).own hq
        exact own_kept (own_grown hus hga) hg hc (by decide)
    obtain ⟨ro', rc', rfl⟩ := own_form ho
    have hs9 := grown_setCell w1 w.heap.size 0 (.slice ro' (pre.length + 1) rc')
    have hp2 := hp.kept hs9 b9 (by decide) (by decide)
    have hu2 := own_kept hu1 hs9 b9 (by decide)
    have b9' := b9.set (.slice ro' (pre.length + 1) rc')
    have b10' := b10.other (by omega) (B' := w.heap.size) (.slice ro' (pre.length + 1) rc')
    have hK2 : KeepsOthers W (w1.setCell ⟨w.heap.size, 0, none⟩ (.slice ro' (pre.length + 1) rc')) :=
      ((KeepsOthers.alloc W _).trans (keeps_own (hfs.grown hga).own hg)).trans (KeepsOthers.setCell _ _ _)
    have hKp2 : Keeps (itQ Bs Bb Be (liveA bo xs)) W (w1.setCell ⟨w.heap.size, 0, none⟩ (.slice ro' (pre.length + 1) rc')) := by
      refine ((Keeps.of hga (fun _ e => by cases e)).trans (Keeps.of hg (fun k hk hq => ?_))).trans (Keeps.of hs9 (fun k hk hq => by cases hk; exact HQ.out _ (Nat.le_refl _) (by omega) hq))
      have := HL2.out k hq
      have := hrow k hk
      omega
    have hg2 : w.grownBy (w1.setCell ⟨w.heap.size, 0, none⟩ (.slice ro' (pre.length + 1) rc')) none :=
      grown_then (grown_then (grown_trans hI.gr hga) hg (fun j e => Or.inl (by have := hrow j e; omega))) hs9 (fun j e => by cases e; exact Or.inl (Nat.le_refl _))
    have c9 := b9.cell
    have f9 := b9.frozen
    have c10 := b10'.cell
    have hw3 : w2.heap.size ≤ (w1.setCell ⟨w.heap.size, 0, none⟩ (.slice ro' (pre.length + 1) rc')).heap.size := Nat.le_trans hsz hK2.size
    have HY := hide (And.intro hp2 (And.intro b9' (And.intro b10' (And.intro hK2 (And.intro hKp2 (And.intro hg2 (And.intro hV hu2)))))))
    have HSh : Hid (fend (frs pre) + (22 + b.length) ≤ n) := by
      have := hV.row.fits
      rw [fend_snoc, H.out.len] at this
      exact this
    clear hI hV hF hb9 hfs hga hrow hp hkeep b9 b10 hs9 hp2 b9' b10' hK2 hKp2 hg2 ho hg hne HX d0 d1 d2 h22 hb10 hus hu1 hu2
    generalize hW3 : w1.setCell ⟨w.heap.size, 0, none⟩ (.slice ro' (pre.length + 1) rc') = w3 at *
    have hcell1 : ∀ j u, [Value.int .i64 ((fend (frs pre) : Nat) : Int)][j]? = some u → (w3.alloc (.cells #[.int .i64 ((fend (frs pre) : Nat) : Int)] 3)).cell? ((⟨w3.heap.size, 0, none⟩ : Addr).add j) = some u := by
      intro j u hu
      rw [Addr.add_lit, Nat.zero_add, cell_row (heap_alloc_new w3 (.cells [Value.int .i64 ((fend (frs pre) : Nat) : Int)].toArray 3))]
      exact hu
    have HC1 := hide hcell1
    clear hcell1
    gi_wp2_with (gi_at_builtin; refine wpListIn_append_own _ rfl (.tmp 29) (.tmp 31) 47 rfl w2.heap.size 3 i3 (.int .i64 0) 1 8 Tryd.underlying47 HI3.out.1 HI3.out.2.1 HI3.out.2.2.1 HI3.out.2.2.2 rfl (by decide) (.slice uo pre.length uc) pre.length (ints (plc (frs pre))) rfl (own_grown HY.out.2.2.2.2.2.2.2 (World.grownBy_alloc w3 _ none)) ⟨w3.heap.size, 0, none⟩ 1 1 [.int .i64 ((fend (frs pre) : Nat) : Int)] rfl rfl HC1.out (by simp [Value.oneCell']) (by unfold maxLen; omega) (by omega) (by simp; omega) ?_)
    intro v2 w4 ho hg hne
    obtain ⟨hp2, b9', b10', hK2, hKp2, hg2, hV, hu2⟩ := HY.out
    have hga := World.grownBy_alloc w3 (.cells #[.int .i64 ((fend (frs pre) : Nat) : Int)] 3) none
    have hrow : ∀ k, (Value.slice uo pre.length uc).ownBlock = some k → w2.heap.size ≤ k := fun k hk => (hu2.lt k hk).1
    have hp3 : FsAt w4 w2.heap.size (.slice ro' (pre.length + 1) rc') (pre ++ [⟨at_, ⟨e, s, b⟩, .slice vo b.length vc, lo, hi⟩]) := by
      cases hq : (Value.slice uo pre.length uc).ownBlock with
      | none => rw [hq] at hg; exact (hp2.grown hga).grown hg
      | some k =>
        rw [hq] at hg
        obtain ⟨c, hc⟩ := own_cells (own_grown hu2 hga) hq
        exact (hp2.grown hga).kept hg hc (by decide) (by decide)
    have hkeep : ∀ k, k < w3.heap.size → (Value.slice uo pre.length uc).ownBlock ≠ some k → w4.heap[k]? = w3.heap[k]? := fun k hk hne => (hg.block k (by simp; omega) (fun e => hne e.symm)).trans (hga.block k hk (by simp))
    have b9 : Boxed w4 w.heap.size 41 (.slice ro' (pre.length + 1) rc') := (hkeep _ b9'.lt (fun e => by have := hrow _ e; omega)).trans b9'
    have b10 : Boxed w4 (w.heap.size + 1) 47 (.slice uo pre.length uc) := (hkeep _ b10'.lt (fun e => by have := hrow _ e; omega)).trans b10'
    obtain ⟨uo', uc', rfl⟩ := own_form ho
    have hs10 := grown_setCell w4 (w.heap.size + 1) 0 (.slice uo' (pre.length + 1) uc')
    have c10' := b10.cell
    have f10' := b10.frozen
    have HZ : Hid (ownPostG w2.heap.size (Keeps (itQ Bs Bb Be (liveA bo xs))) (fun pre W => TlI w W w2.heap.size w.heap.size (w.heap.size + 1) n pre ∧ w2.heap.size ≤ W.heap.size) (fun _ _ _ => False) (pre ++ [⟨at_, ⟨e, s, b⟩, .slice vo b.length vc, lo, hi⟩]) W .normal { tmps := #[], defers := [] } (w4.setCell ⟨w.heap.size + 1, 0, none⟩ (.slice uo' (pre.length + 1) uc'))) := by
      refine ⟨((hK2.trans ((KeepsOthers.alloc w3 _).trans (keeps_own (own_grown hu2 hga) hg))).trans (KeepsOthers.setCell _ _ _)).from _, ((hKp2.trans (Keeps.of hga (fun _ e => by cases e))).trans (Keeps.of hg (fun k hk hq => ?_))).trans (Keeps.of hs10 (fun k hk hq => by cases hk; exact HQ.out _ (by omega) (by omega) hq)), ⟨⟨_, b9.other (by omega) _, hp3.kept hs10 b10 (by decide) (by decide)⟩, ⟨_, b10.set _, ?_⟩, ?_, ?_⟩, ?_⟩
      · have := HL2.out k hq
        have := hrow k hk
        omega
      · rw [frs_snoc, plc_snoc, ints_snoc, List.length_append]
        exact own_kept ho hs10 b10 (by decide)
      · exact grown_then (grown_then (grown_trans hg2 hga) hg (fun j e => Or.inl (by have := hrow j e; omega))) hs10 (fun j e => by cases e; exact Or.inl (by omega))
      · rw [frs_snoc, fend_snoc]; exact HSh.out
      · exact Nat.le_trans hw3 (Nat.le_trans hga.size (Nat.le_trans hg.size (by simp [World.setCell])))
    clear hp2 b9' b10' hK2 hKp2 hg2 hV hu2 hga hrow hp3 hkeep b9 b10 hs10 ho hg hne HY HC1 c9 f9 c10 hW3
    gi_wp2
    exact HZ.out
  case done =>
    rintro D ys W hD hys ⟨hI, hsz⟩ hK
    obtain ⟨v, hb9, hfs⟩ := hI.row
    obtain ⟨u, hb10, hus⟩ := hI.pla
    have c9 := hb9.cell
    have c10 := hb10.cell
    have HX := hide (And.intro hI (And.intro hfs (And.intro hus (And.intro hK hys))))
    obtain ⟨ro, rc, rfl⟩ := own_form hfs.own
    obtain ⟨uo, uc, rfl⟩ := own_form hus
    clear hI hb9 hfs hb10 hus hK hys
    go_wp2
    go_quiet (fail)
    go_wp2
    obtain ⟨hI, hfs, hus, hK, hys⟩ := HX.out
    have hKd : (W.drewN nq).heap[D]? = some (.deferred (some [])) := hK
    refine ⟨by simp, .inl ⟨_, _, rfl, run_takeDeferred hKd, ?_⟩⟩
    have hf2 := FsAt.own_from (B := w2.heap.size) ys (W.drewN nq) ((W.drewN nq).putObj D (.deferred none)) (some D) ((hfs.base (base' := w.heap.size) (by omega)).grown (grown_drewN W nq none)) (grownBy_putObj' _ D _) (fun r e => by cases e; exact ⟨hD, _, hKd, rfl⟩)
    have hu2 := ownsRow_putObj (own_grown (own_base hus (show w.heap.size ≤ w2.heap.size by omega)) (grown_drewN W nq none)) (.deferred none) hKd rfl
    rw [hys] at hu2
    refine ⟨_, results_tmp3 rfl _ _ _, _, _, ys, rfl, hys, hf2, hu2, ?_⟩
    exact grown_then (grown_trans hI.gr (grown_drewN W nq none)) (grownBy_putObj' _ D _) (fun j e => by cases e; exact Or.inl (by omega))
end Go.Proofs.YtoeehajdmdmemaaDoor
