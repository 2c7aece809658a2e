/- The contract of does. -/
import Derived.Test.YtgcfjphjekkkmaaAwake
import Derived.Test.YtgcfjphjekkkmaaArgO
import Derived.Deep.CutRange
import Derived.Deep.DeepCutAuto
namespace Go.Proofs.Ytgcfjphjekkkmaa
open Go.RowKit Ap
attribute [local go_sem ↓] Go.wp_at_zero Go.wp_at_succ

theorem FatesAt.kept2 {w w' : World} {fo : Option Addr} {F : List (Int × Int)} {row : Option Nat} (h : FatesAt w fo F) (hg : w.grownBy w' row) (hr : ∀ a, fo = some a → 0 < F.length → some a.block ≠ row) : FatesAt w' fo F := by
  intro j p hj
  obtain ⟨b, o, e, h1, h2⟩ := h j p hj
  have hl : 0 < F.length := Nat.lt_of_le_of_lt (Nat.zero_le _) (List.getElem?_eq_some_iff.1 hj).1
  have hb : some b ≠ row := hr ⟨b, o, none⟩ e hl
  exact ⟨b, o, e, hg.cell h1 hb, hg.cell h2 hb⟩
theorem FIn.grown {w w' : World} {fo : Option Addr} {cap : Nat} {F : List (Int × Int)} (h : FIn w fo cap F) (hg : w.grownBy w' none) : FIn w' fo cap F :=
  ⟨h.at_.grown hg, h.nil, h.size, fun a e hl => Nat.lt_of_lt_of_le (h.lt a e hl) hg.size⟩
theorem OpAt.grown {w w' : World} {b off : Nat} {o : OpD} {fo : Option Addr} {cap : Nat} (h : OpAt w b off o fo cap) (hg : w.grownBy w' none) : OpAt w' b off o fo cap :=
  ⟨hg.cell h.c0 (by simp), hg.cell h.c1 (by simp), hg.cell h.c2 (by simp), hg.cell h.c3 (by simp), hg.cell h.c4 (by simp), hg.cell h.c5 (by simp), h.fin.grown hg⟩
theorem OpsAt.grown {w w' : World} {ao : Option Addr} {os : List OpD} (h : OpsAt w ao os) (hg : w.grownBy w' none) : OpsAt w' ao os := by
  intro j o hj
  obtain ⟨b, off, fo, cap, e, ho⟩ := h j o hj
  exact ⟨b, off, fo, cap, e, ho.grown hg⟩

section
variable {w0 w : World} {k : Dk} {n size : Nat} {D : List Nat} {W : List Wt}
set_option maxHeartbeats 400000 in
theorem crash2 {d : Nat} (hd : k.d = d) (h : DkS w0 w k n size D W) (fo : Option Addr) (m cap : Nat) (F : List (Int × Int)) (hm : F.length = m) (hF : FatesAt w fo F) (hfo : ∀ a, fo = some a → 0 < F.length → a.block ≠ k.db) : Calls Try.prog 33 #[.pointer (some ⟨d, 0, none⟩), .slice fo m cap] w fun e w' => e = .returned (.int .i64 0) ∧
    DkS w0 w' k.calm n size (stl size (fun i => lasts (fateK F i) (fateA F i) size) D W W.length) [] ∧ Kept w w' (fun i => i = k.d ∨ i = k.db ∨ i = k.mb) := by
  subst hd
  have g0 := World.grownBy_alloc w (.cells #[.slice fo m cap] 35) none
  have hdb := h.disk.lt k.db (.inl (.inr (.inl rfl)))
  have H := hide (settle59 ⟨w.heap.size, 0, none⟩ (fateK F) (fateA F) (h.disk.grown g0) (fun i _ w' hg => fate_any i m cap fo F w.heap.size w' hm ((hF.grown g0).kept2 hg (fun a e hl e' => hfo a e hl (Option.some.inj e')))
    (hg.cell (cell_new w _ 35) (fun e => by have : w.heap.size = k.db := Option.some.inj e; omega))))
  have HK : Hid (∀ w' : World, Kept (w.alloc (.cells #[.slice fo m cap] 35)) w' (fun i => i = k.d ∨ i = k.db ∨ i = k.mb) → Kept w w' (fun i => i = k.d ∨ i = k.db ∨ i = k.mb)) := fun w' hk => (Kept.new g0 _).trans hk (fun _ _ e => e)
  have hmf : ∀ (fn : Fn) (first cap : Array Value) (w : World), (Instr.makeFunc fn first cap).run Try.prog w = .ok (.func fn first cap) w := fun _ _ _ _ => rfl
  have HD := hide h
  clear h g0 hF hfo hm hdb
  go_enter Try.func33, Try.ntmps33
  go_wp2_with fail
  refine H.out.mono ?_
  rintro e w' ⟨rfl, h1, h2⟩
  have HH := hide (And.intro (HD.out.calm h1 (HK.out _ h2)) (HK.out _ h2))
  clear h1 h2
  go_wp2
  go_ret
  exact ⟨rfl, HH.out⟩
end

/-- What waits, without where. -/
abbrev Pr := Nat × List Nat
def abs (W : List Wt) : List Pr := W.map fun x => (x.sec, x.xs)
def stlP (size : Nat) (L : Nat → Nat) (D : List Nat) (P : List Pr) : Nat → List Nat
  | 0 => D
  | j + 1 => match P[j]? with
    | some x => splice (stlP size L D P j) (x.1 * size) (x.2.take (L j))
    | none => stlP size L D P j
theorem stl_abs (size : Nat) (L : Nat → Nat) (D : List Nat) (W : List Wt) (j : Nat) : stl size L D W j = stlP size L D (abs W) j := by
  induction j with
  | zero => rfl
  | succ j ih =>
    rw [stl, stlP, abs, List.getElem?_map]
    cases hx : W[j]? with
    | none => simpa [abs] using ih
    | some x => simp only [Option.map_some]; rw [ih]; rfl
theorem abs_length (W : List Wt) : (abs W).length = W.length := by simp [abs]
/-- A step of a script, on what lies there. -/
def absStep (st : List Nat × List Pr) (o : OpD) : List Nat × List Pr :=
  if o.d0 % 4 = 2 then (stlP 64 (fun _ => 64) st.1 st.2 st.2.length, [])
  else if o.d0 % 4 = 3 then (stlP 64 (fun i => lasts (fateK o.F i) (fateA o.F i) 64) st.1 st.2 st.2.length, [])
  else (st.1, st.2 ++ [((o.d2 % 4).toNat, fills o.d3 64)])
theorem absStep_len (st : List Nat × List Pr) (o : OpD) : (absStep st o).2.length ≤ st.2.length + 1 := by
  unfold absStep; split
  · simp
  · split <;> simp

/-- One disk, before and after. -/
structure Moved (w w' : World) (k k' : Dk) (W W' : List Wt) : Prop where
  d : k'.d = k.d
  db : k'.db = k.db
  own : ∀ i, k'.own i → k.own i ∨ w.heap.size ≤ i
  blk : ∀ x ∈ W', (∃ y ∈ W, y.blk = x.blk) ∨ w.heap.size ≤ x.blk
  kept : Kept w w' k.own
theorem Moved.refl (w : World) (k : Dk) (W : List Wt) : Moved w w k k W W := ⟨rfl, rfl, fun _ h => Or.inl h, fun x hx => Or.inl ⟨x, hx, rfl⟩, Kept.refl _ _⟩
theorem Moved.trans {a b c : World} {k k' k'' : Dk} {W W' W'' : List Wt} (h : Moved a b k k' W W') (g : Moved b c k' k'' W' W'') : Moved a c k k'' W W'' := by
  refine ⟨g.d.trans h.d, g.db.trans h.db, ?_, ?_, h.kept.trans g.kept ?_⟩
  · intro i hi
    rcases g.own i hi with h1 | h1
    · exact h.own i h1
    · exact Or.inr (Nat.le_trans h.kept.size h1)
  · intro x hx
    rcases g.blk x hx with ⟨y, hy, e⟩ | h1
    · rw [← e]
      exact h.blk y hy
    · exact Or.inr (Nat.le_trans h.kept.size h1)
  · intro i hi h1
    rcases h.own i h1 with h2 | h2
    · exact h2
    · omega
theorem Moved.new {a b c : World} {k k' : Dk} {W W' : List Wt} (h : Moved a b k k' W W') (g : b.grownBy c none) : Moved a c k k' W W' := ⟨h.d, h.db, h.own, h.blk, h.kept.trans (Kept.new g _) (fun _ _ e => e)⟩
theorem Moved.pre {a b c : World} {k k' : Dk} {W W' : List Wt} (g : a.grownBy b none) (h : Moved b c k k' W W') : Moved a c k k' W W' :=
  ⟨h.d, h.db, fun i hi => (h.own i hi).imp id (fun e => Nat.le_trans g.size e), fun x hx => (h.blk x hx).imp id (fun e => Nat.le_trans g.size e), (Kept.new g _).trans h.kept (fun _ _ e => e)⟩
section
variable {w0 w : World} {k : Dk} {n size : Nat} {D : List Nat} {W : List Wt}
theorem Wrote.moved {w' : World} {k' : Dk} {s : Nat} {xs : List Nat} (hw : Wrote w w' k k' n size D W s xs) : Moved w w' k k' W (W ++ [⟨s, w.heap.size, xs⟩]) := by
  refine ⟨hw.d, hw.db, ?_, ?_, hw.kept.mono ?_⟩
  · rintro i (e | e | e | e)
    · rw [hw.d] at e; exact Or.inl (.inl e)
    · rw [hw.db] at e; exact Or.inl (.inr (.inl e))
    · exact (hw.vw i e).imp (fun e => .inr (.inr (.inl e))) id
    · rw [hw.mb] at e; exact Or.inl (.inr (.inr (.inr e)))
  · intro x hx
    rcases List.mem_append.1 hx with hx | hx
    · exact Or.inl ⟨x, hx, rfl⟩
    · simp at hx; subst hx; exact Or.inr (Nat.le_refl _)
  · rintro i _ (e | e | e)
    · exact .inl e
    · exact .inr (.inr (.inl e))
    · exact .inr (.inr (.inr e))
theorem calm_moved {w' : World} (hk : Kept w w' (fun i => i = k.d ∨ i = k.db ∨ i = k.mb)) : Moved w w' k k.calm W [] := by
  refine ⟨rfl, rfl, ?_, by simp, hk.mono ?_⟩
  · rintro i (e | e | e | e)
    · exact Or.inl (.inl e)
    · exact Or.inl (.inr (.inl e))
    · simp [Dk.calm, Value.ownBlock] at e
    · exact Or.inl (.inr (.inr (.inr e)))
  · rintro i _ (e | e | e)
    · exact .inl e
    · exact .inr (.inl e)
    · exact .inr (.inr (.inr e))
end

theorem do4 (x : Int) : x % 4 = 2 ∨ x % 4 = 3 ∨ (x % 4 = 0 ∨ x % 4 = 1) := by omega
theorem take_snoc {α : Type} (l : List α) (j : Nat) (x : α) (h : l[j]? = some x) : l.take (j + 1) = l.take j ++ [x] := by
  rw [List.take_add_one, h]; rfl
set_option maxRecDepth 20000 in
set_option maxHeartbeats 4000000 in
theorem does_any {w0 w : World} {k : Dk} {D : List Nat} {W : List Wt} {d : Nat} (hd : k.d = d) (h : DkS w0 w k 4 64 D W) (hW : W.length ≤ 100000) (ao : Option Addr) (m cap : Nat) (os : List OpD) (hm : os.length = m) (hm2 : m ≤ 140737488355328) (ho : OpsAt w0 ao os) :
    Calls Try.prog 28 #[.pointer (some ⟨d, 0, none⟩), .slice ao m cap] w fun e w' => e = .returned (.tuple #[]) ∧ ∃ k' D' W', DkS w0 w' k' 4 64 D' W' ∧ Moved w w' k k' W W' ∧ (D', abs W') = (os.take 200).foldl absStep (D, abs W) ∧ W'.length ≤ W.length + 200 := by
  obtain ⟨T, hT⟩ : ∃ T, T = min m 200 := ⟨_, rfl⟩
  have HT := hide hT
  have HH := hide (And.intro hd (And.intro h (And.intro hW (And.intro hm ho))))
  clear hd h hW hm ho hT
  go_enter Try.func28, Try.ntmps28
  go_wp2
  go_loopg [4] T (fun q i wr => ∃ j : Nat, q + j = T ∧ i = .int .i64 j ∧ Hid (∃ k' D' W', DkS w0 wr k' 4 64 D' W' ∧ Moved w wr k k' W W' ∧ (D', abs W') = (os.take j).foldl absStep (D, abs W) ∧ W'.length ≤ W.length + j))
  case atStart => exact ⟨0, by omega, rfl, hide ⟨k, D, W, HH.out.2.1, Moved.refl _ _ _, rfl, Nat.le_refl _⟩⟩
  case round =>
    obtain ⟨j, hkj, rfl, HR⟩ := hrel
    have hT := HT.out
    by_cases hk : 0 < gk
    · have hjm : j < m := by omega
      have hj2 : j < 200 := by omega
      obtain ⟨o, hoj⟩ : ∃ o, os[j]? = some o := ⟨_, List.getElem?_eq_getElem (by have := HH.out.2.2.2.1; omega)⟩
      obtain ⟨k1, D1, W1, r1, r2, r3, r4⟩ := HR.out
      obtain ⟨b, off, fo, fcap, rfl, hop⟩ := HH.out.2.2.2.2 j o hoj
      have hopr := hop.grown r1.grown
      have c0 := hopr.c0
      have c1 := hopr.c1
      have c2 := hopr.c2
      have c3 := hopr.c3
      have c4 := hopr.c4
      have c5 := hopr.c5
      have g1 := World.grownBy_alloc wr (.cells #[.int .i64 o.d0, .int .i64 o.d1, .int .i64 o.d2, .int .i64 o.d3, .int .i64 o.d4, .slice fo o.F.length fcap] 37) none
      have HB : Hid (∀ w', (wr.alloc (.cells #[.int .i64 o.d0, .int .i64 o.d1, .int .i64 o.d2, .int .i64 o.d3, .int .i64 o.d4, .slice fo o.F.length fcap] 37)).grownBy w' none → ∀ (i : Nat) (v : Value), [Value.int .i64 o.d0, .int .i64 o.d1, .int .i64 o.d2, .int .i64 o.d3, .int .i64 o.d4, .slice fo o.F.length fcap][i]? = some v → w'.cell? ⟨wr.heap.size, i, none⟩ = some v) := fun w' hg i v hv =>
        hg.cell ((cell_row (l := [Value.int .i64 o.d0, .int .i64 o.d1, .int .i64 o.d2, .int .i64 o.d3, .int .i64 o.d4, .slice fo o.F.length fcap]) (heap_alloc_new wr _) i).trans hv) (by simp)
      have hd1 : k1.d = d := r2.d.trans HH.out.1
      have hfl : ∀ a, fo = some a → 0 < o.F.length → a.block ≠ k1.db := fun a e hl => by
        have h1 := hop.fin.lt a e hl
        have h2 := r1.own k1.db (.inr (.inl rfl))
        omega
      have hW1 : W1.length < 1000000 := by have := HH.out.2.2.1; omega
      have h1 : (0 : Int) ≤ (j : Int) := by omega
      have h2 : (j : Int) < (m : Int) := by omega
      have HX := hide (And.intro r1 (And.intro r2 (And.intro r3 (And.intro r4 (And.intro hd1 (And.intro hfl (And.intro hW1 (And.intro hopr.fin (And.intro g1 (take_snoc os j o hoj))))))))))
      have P0 : Hid (∀ w, Calls Try.prog 14 #[.int .i64 o.d0, .int .i64 4] w fun e w' => e = .returned (.int .i64 (o.d0 % 4)) ∧ w' = w) := fun w => pick_any o.d0 4 4 w rfl (by omega) (by omega)
      clear r1 r2 r3 r4 hd1 hfl hW1 hop hopr g1 hoj HR hT
      have HNW := hide (heap_alloc_new wr (.cells #[.int .i64 o.d0, .int .i64 o.d1, .int .i64 o.d2, .int .i64 o.d3, .int .i64 o.d4, .slice fo o.F.length fcap] 37))
      have b0 := HB.out _ (grown_refl _ _) 0 _ rfl
      have b2 := HB.out _ (grown_refl _ _) 2 _ rfl
      have b3 := HB.out _ (grown_refl _ _) 3 _ rfl
      have b5 := HB.out _ (grown_refl _ _) 5 _ rfl
      have HE : Hid (∀ st, (D1, abs W1) = st → absStep (D1, abs W1) o = absStep st o) := fun st e => by rw [e]
      rcases do4 o.d0 with hdo | hdo | hdo
      · have HO := hide hdo
        rw [hdo] at P0
        clear hdo
        go_wp2_with fail
        refine (P0.out _).mono ?_
        rintro e w1 ⟨rfl, rfl⟩
        generalize wr.alloc (.cells #[.int .i64 o.d0, .int .i64 o.d1, .int .i64 o.d2, .int .i64 o.d3, .int .i64 o.d4, .slice fo o.F.length fcap] 37) = wA at *
        go_wp2_with fail
        obtain ⟨r1, r2, r3, r4, hd1, hfl, hW1, hfin, g1, htk⟩ := HX.out
        refine (syncS hd1 (r1.then g1)).mono ?_
        rintro e w2 ⟨rfl, d2, x2⟩
        have H2 := hide (And.intro d2 x2)
        clear d2 x2 r1 r2 r3 r4 hd1 hfl hW1 hfin g1 htk b0 b2 b3 b5 c0 c1 c2 c3 c4 c5
        go_wp2
        go_roundg (gk - 1)
        case measure => omega
        case rel =>
          obtain ⟨r1, r2, r3, r4, hd1, hfl, hW1, hfin, g1, htk⟩ := HX.out
          refine ⟨j + 1, by omega, by go_num, hide ⟨k1.calm, _, [], H2.out.1, r2.trans (Moved.pre g1 (calm_moved H2.out.2)), ?_, by simp⟩⟩
          rw [htk, List.foldl_append, List.foldl_cons, List.foldl_nil, ← r3]
          unfold absStep
          rw [if_pos HO.out, stl_abs, abs_length]
          rfl
      · have HO := hide hdo
        rw [hdo] at P0
        clear hdo
        go_wp2_with fail
        refine (P0.out _).mono ?_
        rintro e w1 ⟨rfl, rfl⟩
        generalize wr.alloc (.cells #[.int .i64 o.d0, .int .i64 o.d1, .int .i64 o.d2, .int .i64 o.d3, .int .i64 o.d4, .slice fo o.F.length fcap] 37) = wA at *
        go_wp2_with fail
        obtain ⟨r1, r2, r3, r4, hd1, hfl, hW1, hfin, g1, htk⟩ := HX.out
        refine (crash2 hd1 (r1.then g1) fo o.F.length fcap o.F rfl (hfin.grown g1).at_ hfl).mono ?_
        rintro e w2 ⟨rfl, d2, x2⟩
        have H2 := hide (And.intro d2 x2)
        clear d2 x2 r1 r2 r3 r4 hd1 hfl hW1 hfin g1 htk b0 b2 b3 b5 c0 c1 c2 c3 c4 c5
        go_wp2
        go_roundg (gk - 1)
        case measure => omega
        case rel =>
          obtain ⟨r1, r2, r3, r4, hd1, hfl, hW1, hfin, g1, htk⟩ := HX.out
          refine ⟨j + 1, by omega, by go_num, hide ⟨k1.calm, _, [], H2.out.1, r2.trans (Moved.pre g1 (calm_moved H2.out.2)), ?_, by simp⟩⟩
          rw [htk, List.foldl_append, List.foldl_cons, List.foldl_nil, ← r3]
          unfold absStep
          rw [if_neg (by rw [HO.out]; decide), if_pos HO.out, stl_abs, abs_length]
          rfl
      · have HO : Hid (¬ o.d0 % 4 = 2 ∧ ¬ o.d0 % 4 = 3) := ⟨by omega, by omega⟩
        have hn2 : (o.d0 % 4 == 2) = false := by simpa using HO.out.1
        have hn3 : (o.d0 % 4 == 3) = false := by simpa using HO.out.2
        have HPA : Hid (∀ w, Calls Try.prog 14 #[.int .i64 o.d2, .int .i64 4] w fun e w' => e = .returned (.int .i64 (((o.d2 % 4).toNat : Nat) : Int)) ∧ w' = w) := fun w => by
          rw [show (((o.d2 % 4).toNat : Nat) : Int) = o.d2 % 4 by omega]; exact pick_any o.d2 4 4 w rfl (by omega) (by omega)
        have hs4 : (o.d2 % 4).toNat < 4 := by omega
        have HO2 := hide HO.out
        obtain ⟨c, hc⟩ : ∃ c, c = o.d0 % 4 := ⟨_, rfl⟩
        rw [← hc] at P0 hn2 hn3
        clear hc
        obtain ⟨sc, hsc⟩ : ∃ sc, sc = (o.d2 % 4).toNat := ⟨_, rfl⟩
        rw [← hsc] at HPA hs4
        have HSC := hide hsc
        clear hdo hsc
        go_wp2_with fail
        refine (P0.out _).mono ?_
        rintro e w1 ⟨rfl, rfl⟩
        generalize wr.alloc (.cells #[.int .i64 o.d0, .int .i64 o.d1, .int .i64 o.d2, .int .i64 o.d3, .int .i64 o.d4, .slice fo o.F.length fcap] 37) = wA at *
        obtain ⟨rb, hrb⟩ : ∃ rb, rb = wr.heap.size := ⟨_, rfl⟩
        rw [← hrb] at b0 b2 b3 b5 HB
        have hg1 := HX.out.2.2.2.2.2.2.2.2.1
        have HRB : Hid (wA.heap[rb]? = some (.cells [Value.int .i64 o.d0, .int .i64 o.d1, .int .i64 o.d2, .int .i64 o.d3, .int .i64 o.d4, .slice fo o.F.length fcap].toArray 37 (0, 0))) := by rw [hrb]; exact HNW.out
        clear hg1
        go_wp2_with fail
        rw [← hrb]
        clear hrb
        go_region_held3 (fun w' => w'.cell? ⟨rb, 2, none⟩ = some (.int .i64 o.d2) ∧ w'.cell? ⟨rb, 3, none⟩ = some (.int .i64 o.d3)) (first | exact ⟨b2, b3⟩ | assumption | go_keep) (first
          | (go_at_call 14; refine (HPA.out _).mono ?_; rintro e w1 ⟨rfl, rfl⟩)
          | (go_at_call 30; refine (fill_any o.d3 64 (by omega) _).mono ?_; rintro e w2 ⟨rfl, a2, g2⟩; have g2' := grown_trans (grown_drew wA none) g2; have hS2 := And.intro (g2'.cell b2 (by simp)) (g2'.cell b3 (by simp)); have A2 := hide (And.intro a2 g2'); clear a2 g2 g2')
          | (go_at_call 31; refine (writeS HX.out.2.2.2.2.1 ((HX.out.1.then HX.out.2.2.2.2.2.2.2.2.1).then A2.out.2) HX.out.2.2.2.2.2.2.1 sc hs4 (some ⟨_, 0, none⟩) 64 (fills o.d3 64) (at_row A2.out.1) (fills_length _ _)).mono ?_; rintro e w3 ⟨rfl, k3, e3, e4, d3, x3⟩; have hrb3 := x3.other ((A2.out.2.block rb (row_lt HRB.out) (by simp)).trans HRB.out) (((HX.out.1.then HX.out.2.2.2.2.2.2.2.2.1).then A2.out.2).disk.other_off ((A2.out.2.block rb (row_lt HRB.out) (by simp)).trans HRB.out) (by decide) (by decide) (by decide)); have hS3 : w3.cell? ⟨rb, 2, none⟩ = some (.int .i64 o.d2) ∧ w3.cell? ⟨rb, 3, none⟩ = some (.int .i64 o.d3) := And.intro (cell_row hrb3 2) (cell_row hrb3 3); have A3 := hide (And.intro d3 x3); clear d3 x3 e3 e4 hrb3))
        clear b0 b2 b3 b5 c0 c1 c2 c3 c4 c5 hS2 hS3
        go_wp2
        go_roundg (gk - 1)
        case measure => omega
        case rel =>
          obtain ⟨r1, r2, r3, r4, hd1, hfl, hW1, hfin, g1, htk⟩ := HX.out
          refine ⟨j + 1, by omega, by go_num, hide ⟨k3, D1, _, A3.out.1, r2.trans (Moved.pre g1 (Moved.pre A2.out.2 A3.out.2.moved)), ?_, by simp; omega⟩⟩
          rw [htk, List.foldl_append, List.foldl_cons, List.foldl_nil, ← r3]
          unfold absStep
          rw [if_neg HO2.out.1, if_neg HO2.out.2]
          simp only [abs, List.map_append, List.map_cons, List.map_nil]
          rw [← HSC.out]
    · obtain ⟨k1, D1, W1, r1, r2, r3, r4⟩ := HR.out
      have hj : j = T := by omega
      subst hj
      have HX : Hid (os.take j = os.take 200) := by
        have := HH.out.2.2.2.1
        have hT := HT.out
        show _ = _
        by_cases h : m ≤ 200
        · rw [List.take_of_length_le (by omega), List.take_of_length_le (by omega)]
        · rw [show j = 200 by omega]
      have HY := hide (And.intro r1 (And.intro r2 (And.intro r3 r4)))
      clear r1 r2 r3 r4 hkj
      by_cases hm3 : m < 201
      · have hjm : j = m := by omega
        subst hjm
        clear hT
        go_wp2
        go_end0
        refine ⟨rfl, k1, D1, W1, HY.out.1, HY.out.2.1, ?_, by have := HY.out.2.2.2; omega⟩
        rw [← HX.out]; exact HY.out.2.2.1
      · have hjm : j = 200 := by omega
        subst hjm
        clear hT
        go_wp2
        go_end0
        refine ⟨rfl, k1, D1, W1, HY.out.1, HY.out.2.1, HY.out.2.2.1, HY.out.2.2.2⟩
end Go.Proofs.Ytgcfjphjekkkmaa
