/- Texts joined: Q6, LaF, O7, Q7. -/
import Derived.Test.YtinkkocleognbaaGreatDoorJuBb
import Derived.Test.YtinkkocleognbaaGreatDoorJuAn
import Derived.Deep.Slices
import Derived.Test.YtinkkocleognbaaGreatDoorJuAx
import Derived.Test.YtinkkocleognbaaGreatDoorJuAy
import Derived.Test.YtinkkocleognbaaGreatDoorJuAw
import Derived.Deep.CutRange
import Derived.Deep.DeepCutAuto
import Derived.Maps.AppendAt
import Derived.Sort.LoopGhostIn
import Derived.Laws.AppendOwnNone
/- ReplayRuns: frames as cells one behind the other; the frames made and those given, in one row; what was lent lies apart. -/
namespace Go.Proofs.YtinkkocleognbaaGreatDoor
open Go.RowKit Go.Shelf
theorem lfcs_get {L : List Lf} {j : Nat} {u : Value} (h : (lfcs L)[j]? = some u) : ∃ x, L[j / 3]? = some x ∧ (lfc x)[j % 3]? = some u := by
  have hj := (List.getElem?_eq_some_iff.1 h).1
  rw [lfcs_length] at hj
  have hi : j / 3 < L.length := by omega
  refine ⟨L[j / 3], List.getElem?_eq_getElem hi, ?_⟩
  have := lfcs_at (o := j % 3) (List.getElem?_eq_getElem hi) (by omega)
  rw [← this, show j / 3 * 3 + j % 3 = j by omega]
  exact h
theorem FmsAt.cells {W : World} {FB : Nat → Prop} {g off : Nat} {fs : List Fm} (h : FmsAt W FB (some ⟨g, off, none⟩) fs) : ∀ j u, (lfcs (fs.map fmL))[j]? = some u → W.cell? (Addr.add ⟨g, off, none⟩ j) = some u := by
  intro j u hj
  obtain ⟨x, h1, h2⟩ := lfcs_get hj
  rw [List.getElem?_map] at h1
  cases hf : fs[j / 3]? with
  | none => rw [hf] at h1; cases h1
  | some f =>
    rw [hf] at h1
    cases h1
    obtain ⟨b, o, e, -, c0, c1, c2, -⟩ := h _ f hf
    cases e
    rw [Addr.add_lit]
    have hm : j % 3 < 3 := Nat.mod_lt _ (by decide)
    have hd : j = j / 3 * 3 + j % 3 := by omega
    generalize hk : j % 3 = k at *
    generalize j / 3 = i at *
    rw [hd]
    have : k = 0 ∨ k = 1 ∨ k = 2 := by omega
    rcases this with rfl | rfl | rfl <;> simp [lfc, fmL] at h2 <;> subst h2
    · exact c0
    · exact c1
    · exact c2
theorem FmsAt.form {W : World} {FB : Nat → Prop} {bo : Option Addr} {fs : List Fm} (h : FmsAt W FB bo fs) (hl : 0 < fs.length) : ∃ g off, bo = some ⟨g, off, none⟩ := by
  obtain ⟨b, o, e, -⟩ := h 0 fs[0] (List.getElem?_eq_getElem hl)
  exact ⟨b, o, e⟩
theorem FmsAt.take {W : World} {FB : Nat → Prop} {bo : Option Addr} {fs : List Fm} (h : FmsAt W FB bo fs) (n : Nat) : FmsAt W FB bo (fs.take n) := fun j f hj => by
  refine h j f ?_
  rw [List.getElem?_take] at hj
  split at hj
  · exact hj
  · cases hj

/-- Frames that came in. -/
structure Gv (w : World) (bo : Option Addr) (gc : Nat) (gs : List Fm) : Prop where
  at_ : FmsAt w (fun i => i < w.heap.size) bo gs
  ok : ∀ f ∈ gs, f.Ok ∧ (f.ao = none → f.n = 0 ∧ f.cap = 0) ∧ f.n ≤ 140737488355000
  nil : bo = none → gs = [] ∧ gc = 0
theorem Gv.take {w : World} {bo : Option Addr} {gc : Nat} {gs : List Fm} (h : Gv w bo gc gs) (n : Nat) : Gv w bo gc (gs.take n) :=
  ⟨h.at_.take n, fun f hf => h.ok f (List.mem_of_mem_take hf), fun e => by rw [(h.nil e).1]; exact ⟨List.take_nil, (h.nil e).2⟩⟩
theorem Gv.cells {w W : World} {ad : Addr} {gc : Nat} {gs : List Fm} (h : Gv w (some ad) gc gs) (g : w.grownBy W none) : ∀ j u, (lfcs (gs.map fmL))[j]? = some u → W.cell? (ad.add j) = some u := by
  intro j u hj
  cases gs with
  | nil => simp [lfcs] at hj
  | cons f fs =>
    obtain ⟨b, o, e⟩ := h.at_.form (by simp)
    cases e
    exact (h.at_.then g).cells j u hj

/-- All frames, made and given, in one row. -/
structure AlS (w wL W : World) (v : Value) (al : List Fm) : Prop where
  row : W.ownsRow wL.heap.size 41 3 v al.length (lfcs (al.map fmL))
  bod : ∀ f ∈ al, Oc.At W f.ao f.xs ∧ ∀ a, f.ao = some a → f.xs ≠ [] → FBd w wL W a.block
  ok : ∀ f ∈ al, f.Ok ∧ (f.ao = none → f.n = 0 ∧ f.cap = 0) ∧ f.n ≤ 140737488355000
theorem als_of {w wL W W' : World} {v v' : Value} {ma gi : List Fm} {bo : Option Addr} {gc : Nat} (hg : w.grownBy W none) (h : FsS wL W v ma) (k : Gv w bo gc gi) (hr : W'.ownsRow wL.heap.size 41 3 v' (ma.length + gi.length) (lfcs (ma.map fmL) ++ lfcs (gi.map fmL))) (g : W.grownBy W' v.ownBlock) (hwL : w.heap.size ≤ wL.heap.size) :
    AlS w wL W' v' (ma ++ gi) := by
  have K : Kept W W' (fun b => v.ownBlock = some b) := Kept.of g (fun _ e _ => e)
  have hsz : W.heap.size ≤ W'.heap.size := g.size
  refine ⟨by rw [List.length_append, List.map_append, lfcs_append]; exact hr, fun f hf => ?_, fun f hf => ?_⟩
  · rcases List.mem_append.1 hf with hf | hf
    · obtain ⟨b, e, hb, ⟨cur, hc⟩, ha⟩ := h.bod f hf
      have hn : ¬ v.ownBlock = some b := fun ee => by
        obtain ⟨-, c2, hc2⟩ := Ix.own_block h.row ee
        rw [hc2] at hc; simp at hc
      refine ⟨At_keep ha K (fun a ea _ => ?_), fun a ea _ => ?_⟩
      · rw [e] at ea; cases ea; exact hn
      · rw [e] at ea; cases ea
        exact ⟨.inl hb, Nat.lt_of_lt_of_le (row_lt hc) hsz⟩
    · obtain ⟨j, hj⟩ := List.mem_iff_getElem?.1 hf
      obtain ⟨b, o, -, -, -, -, -, ha, hbd⟩ := k.at_ j f hj
      have hbw : ∀ a, f.ao = some a → f.xs ≠ [] → a.block < w.heap.size := fun a ea hx => hbd a ea hx
      refine ⟨At_keep (At_keep ha (Kept.new hg (fun _ => False)) (fun _ _ _ e => e)) K (fun a ea hx => ?_), fun a ea hx => ?_⟩
      · intro ee
        obtain ⟨h1, -⟩ := Ix.own_block h.row ee
        have := hbw a ea hx
        omega
      · have := hbw a ea hx
        exact ⟨.inr this, Nat.lt_of_lt_of_le this (Nat.le_trans hg.size hsz)⟩
  · rcases List.mem_append.1 hf with hf | hf
    · obtain ⟨h1, h2⟩ := h.ok f hf
      obtain ⟨b, e, -⟩ := h.bod f hf
      exact ⟨h1, fun en => (by rw [e] at en; cases en), by omega⟩
    · exact k.ok f hf
theorem AlS.fms {w wL W : World} {vo : Option Addr} {c : Nat} {al : List Fm} (h : AlS w wL W (.slice vo al.length c) al) (hz : w.heap.size ≤ W.heap.size) : FmsAt W (FBd w wL W) vo al := fms_all h.row hz h.bod

/-- What was lent lies in new blocks. -/
theorem lfo_new {w W : World} {g c n : Nat} {al : List Fm} {L : List Lf} (h : LfS w W (.slice (some ⟨g, 0, none⟩) (n + 12) c) al (L ++ mkFs 1 12)) (hL : L.length = n) (hn : al.length = n) : ∀ b, Lfo (.slice (some ⟨g, 0, none⟩) (n + 12) c) (L ++ mkFs 1 12) b → w.heap.size ≤ b ∧ b < W.heap.size := by
  intro b hb
  rcases hb with hb | ⟨x, hx, hb⟩
  · obtain ⟨h1, cur, hc⟩ := Ix.own_block h.row hb
    exact ⟨h1, row_lt hc⟩
  · refine ⟨?_, h.lts x hx b hb⟩
    obtain ⟨i, hi⟩ := List.mem_iff_getElem?.1 hx
    by_cases hin : i < n
    · obtain ⟨-, -, hl⟩ := h.bod i al[i] x (List.getElem?_eq_getElem (by omega)) hi
      obtain ⟨gu, cu, hu, hr⟩ := hl
      exact (Ix.own_block hr (by rw [hu] at hb; exact hb)).1
    · rw [List.getElem?_append_right (by omega)] at hi
      have hlt := (List.getElem?_eq_some_iff.1 hi).1
      rw [mkFs_length] at hlt
      rw [mkFs_get 1 12 _ hlt] at hi
      cases hi
      cases hb
theorem lfo_sub {v : Value} {L M : List Lf} : ∀ b, Lfo v L b → Lfo v (L ++ M) b := fun b h => by
  rcases h with h | ⟨x, hx, h⟩
  · exact .inl h
  · exact .inr ⟨x, List.mem_append_left _ hx, h⟩
end Go.Proofs.YtinkkocleognbaaGreatDoor
/- Arguments that are a row of frames, opened. -/
namespace Go.Proofs.YtinkkocleognbaaGreatDoor
open Go.ChangeShapes Go.WideShapes Go.ChangeAt Go.RowKit Go.Deep
theorem fk41 : Tryz.prog.cellsOf 41 = 3 := by kernel_rfl
theorem fk38 : Tryz.prog.cellsOf 38 = 1 := by kernel_rfl
theorem fk39 : Tryz.prog.cellsOf 39 = 1 := by kernel_rfl
theorem fk5 : Tryz.prog.cellsOf 5 = 1 := by kernel_rfl
theorem fb5 : Tryz.prog.bytesOf 5 = 1 := by kernel_rfl
theorem lsF3 {α : Type} {l : List α} (h : l.length = 3) : ∃ a b c, l = [a, b, c] := by
  match l, h with
  | [a, b, c], _ => exact ⟨a, b, c, rfl⟩
variable {H : Type} {enc : TypeId × Value → H}
theorem weights_all_memF {P : Program} {e : TypeId} {l : List (DataW H)} {d : DataW H} (hd : d ∈ l) : ∀ n ∈ d.weights P e, n ∈ DataW.weightsAll P e l := by
  induction l with
  | nil => cases hd
  | cons x r ih =>
    intro n hn
    simp only [DataW.weightsAll, List.mem_append]
    rcases List.mem_cons.1 hd with rfl | hd
    · exact Or.inl hn
    · exact Or.inr (ih hd n hn)
theorem cell_ltF {w : World} {a : Addr} {v : Value} (h : w.cell? a = some v) : a.block < w.heap.size := by
  rcases Nat.lt_or_ge a.block w.heap.size with h' | h'
  · exact h'
  · simp [World.cell?, Array.getElem?_eq_none h'] at h
/-- Bytes that came in. -/
structure BInF (w : World) (ao : Option Addr) (n cap : Nat) (xs : List Int) : Prop where
  at_ : Oc.At w ao xs
  len : xs.length = n
  byt : Oc.Byt xs
  sm : n ≤ 140737488351232
  nil : ao = none → n = 0 ∧ cap = 0
  fits : n ≤ cap
theorem open_bytesF {w : World} {base fuel : Nat} {spare : Nat → Bool} {held : Bool} {cs : List Value} {x : DataW H × List MemPlace} (h : DataW.trod enc Tryz.prog w base spare held fuel 39 cs = some x) (hw : ∀ n ∈ x.1.weights Tryz.prog 39, n ≤ reachBytes) :
    ∃ ao n cap xs, cs = [.slice ao n cap] ∧ BInF w ao n cap xs := by
  rcases open_ints Tryz.underlying39 Tryz.underlying5 fk5 h with ⟨rfl, _⟩ | ⟨a, len, cap, zs, rfl, _, hl, hm, hz, rfl, hcell, hwf⟩
  · exact ⟨none, 0, 0, [], rfl, ⟨Oc.At.nil _ _, rfl, (fun x hx => by cases hx), by omega, fun _ => ⟨rfl, rfl⟩, by omega⟩⟩
  · have h1 := hw ((lits .u8 (zs.take len) : List (DataW H)).length * 1 + (lits .u8 (zs.drop len) : List (DataW H)).length * 1) (by
      simp [DataW.weights, Tryz.underlying39, fb5])
    simp only [lits, List.length_map, List.length_take, List.length_drop, reachBytes] at h1
    have hzl : len ≤ zs.length := by rw [hz]; split <;> omega
    refine ⟨some a, len, cap, zs.take len, rfl, ⟨?_, by simp; omega, ?_, by omega, (fun e => by cases e), hl⟩⟩
    · intro j u hu
      rw [List.getElem?_take] at hu
      split at hu
      · obtain ⟨hj, he⟩ := List.getElem?_eq_some_iff.1 hu
        exact ⟨a, rfl, by rw [hcell j hj]; simp [hj, he]⟩
      · cases hu
    · intro y hy
      have := bounds_u8 (hwf y (List.mem_of_mem_take hy))
      omega
/-- A frame, by its three cells. -/
theorem open_fmC {w : World} {base n0 : Nat} {spare : Nat → Bool} {held : Bool} {a : Addr} {cs' : List Value} {x : DataW H × List MemPlace} (hc : w.cells? base a 3 = some cs') (h : DataW.trod enc Tryz.prog w base spare held n0 41 cs' = some x) (hz : ∀ n ∈ x.1.weights Tryz.prog 41, n ≤ reachBytes) :
    ∃ (f : Fm), a = ⟨a.block, a.off, none⟩ ∧ w.cell? ⟨a.block, a.off, none⟩ = some (.int .u64 f.e) ∧ w.cell? ⟨a.block, a.off + 1, none⟩ = some (.int .u64 f.s) ∧ w.cell? ⟨a.block, a.off + 2, none⟩ = some (.slice f.ao f.n f.cap) ∧ BInF w f.ao f.n f.cap f.xs := by
  obtain ⟨_, hlen, hcell⟩ := World.cells?_some hc
  obtain ⟨xs, n, _, hx, hl, hsz, hf⟩ := DataW.trod_struct Tryz.underlying41 h
  obtain ⟨v0, v1, v2, rfl⟩ := lsF3 hlen
  obtain ⟨y0, y1, y2, rfl⟩ := lsF3 (show xs.length = 3 from hsz)
  have f0 : DataW.trod enc Tryz.prog w base spare held n 38 [v0] = some y0 := by simpa [fk38] using hf 0 _ rfl
  have f1 : DataW.trod enc Tryz.prog w base spare held n 38 [v1] = some y1 := by simpa [fk38] using hf 1 _ rfl
  have f2 : DataW.trod enc Tryz.prog w base spare held n 39 [v2] = some y2 := by simpa [fk39, fk38] using hf 2 _ rfl
  obtain ⟨e, e0, rfl, we⟩ := DataW.trod_int Tryz.underlying38 f0
  obtain ⟨s, e1, rfl, ws⟩ := DataW.trod_int Tryz.underlying38 f1
  have hd : x.1 = .agg [.lit (.int .u64 e), .lit (.int .u64 s), y2.1] := by
    have := congrArg Prod.fst hx
    simpa using this
  obtain ⟨ao, m, cap, b, e2, hB⟩ := open_bytesF f2 (fun k hk => hz k (by
    rw [hd]
    simp only [DataW.weights, Tryz.underlying41]
    simp [DataW.weightsEach, DataW.weights, hk]))
  simp only [List.cons.injEq, and_true] at e0 e1 e2
  subst e0 e1 e2
  have g0 := hcell 0 (by omega)
  have ha : a = ⟨a.block, a.off, none⟩ := by
    have h1 : w.cell? a = some (.int .u64 e) := by simpa [Addr.add] using g0
    have h2 : a.spot = none := by
      unfold World.cell? at h1
      split at h1
      · split at h1
        · cases h1
        · rename_i hs; simpa using hs
      · cases h1
    cases a; simp_all
  rw [ha] at hcell
  refine ⟨⟨e, s, ao, m, cap, b⟩, ha, ?_, ?_, ?_, hB⟩
  · simpa [Addr.add_lit] using hcell 0 (by omega)
  · simpa [Addr.add_lit] using hcell 1 (by omega)
  · simpa [Addr.add_lit] using hcell 2 (by omega)
set_option maxRecDepth 20000 in
theorem open_fmsArg {w : World} {r : Reach} {b0 : Nat} {v : Value} {d : DataW H} {p0 : List MemPlace} (hval : Value.okWide Tryz.prog w r b0 42 v) (h0 : DataW.Trod enc Tryz.prog w 0 (fun _ => true) true 42 v d p0) (hz : ∀ n ∈ d.weights Tryz.prog 42, n ≤ reachBytes) :
    ∃ (bo : Option Addr) (gc : Nat) (gs : List Fm), v = .slice bo gs.length gc ∧ Gv w bo gc gs ∧ gs.length ≤ gc := by
  obtain ⟨ao, len0, cap0, rfl⟩ := okWide_slice Tryz.underlying42 hval
  obtain ⟨fuel, hf⟩ := h0
  rcases open_slice Tryz.underlying42 hf with ⟨hcs, _⟩ | ⟨a, len, cap, m, n, D, Pl, hcs, _, hl, hm, hmm, hx, hel⟩
  · simp [Value.cells] at hcs
    obtain ⟨rfl, rfl, rfl⟩ := hcs
    exact ⟨none, 0, [], rfl, ⟨(fun j o h => by simp at h), (fun f hf => by cases hf), fun _ => ⟨rfl, rfl⟩⟩, Nat.le_refl _⟩
  · simp [Value.cells] at hcs
    obtain ⟨rfl, rfl, rfl⟩ := hcs
    have hlm : len0 ≤ m := by rw [hmm]; split <;> omega
    have hd := congrArg Prod.fst hx
    dsimp only at hd
    have hw : ∀ i, i < len0 → ∀ n ∈ (D i).weights Tryz.prog 41, n ≤ reachBytes := fun i hi n hn => hz n (by
      rw [hd]
      simp only [DataW.weights, Tryz.underlying42]
      exact List.mem_cons_of_mem _ (List.mem_append_left _ (weights_all_memF (d := D i) (List.mem_map.2 ⟨i, by simpa using hi, rfl⟩) n hn)))
    rw [fk41] at hel
    have hex : ∀ i, i < len0 → ∃ f : Fm, (∃ blk off, some a = some (⟨blk, off, none⟩ : Addr) ∧ w.cell? ⟨blk, off + i * 3, none⟩ = some (.int .u64 f.e) ∧ w.cell? ⟨blk, off + i * 3 + 1, none⟩ = some (.int .u64 f.s) ∧ w.cell? ⟨blk, off + i * 3 + 2, none⟩ = some (.slice f.ao f.n f.cap)) ∧ BInF w f.ao f.n f.cap f.xs := by
      intro i hi
      obtain ⟨cs', hc, ht⟩ := hel i (by omega)
      obtain ⟨f, _, h1, h2, h3, h4⟩ := open_fmC hc ht (hw i hi)
      have ha : a = ⟨a.block, a.off, none⟩ := by
        obtain ⟨cs0, hc0, ht0⟩ := hel 0 (by omega)
        obtain ⟨_, he, _⟩ := open_fmC hc0 ht0 (hw 0 (by omega))
        simpa [Addr.add] using he
      have e1 : (a.add (i * 3)).block = a.block := by unfold Addr.add; split <;> rfl
      have e2 : (a.add (i * 3)).off = a.off + i * 3 := by rw [ha, Addr.add_lit]
      rw [e1, e2] at h1 h2 h3
      exact ⟨f, ⟨a.block, a.off, by rw [← ha], h1, h2, h3⟩, h4⟩
    obtain ⟨gs, q1, q2, q3⟩ : ∃ gs : List Fm, gs.length = len0 ∧ FmsAt w (fun i => i < w.heap.size) (some a) gs ∧ ∀ f ∈ gs, f.Ok ∧ (f.ao = none → f.n = 0 ∧ f.cap = 0) ∧ f.n ≤ 140737488355000 := by
      clear hd hx hz hlm hmm hl hw hel hf hval
      induction len0 with
      | zero => exact ⟨[], rfl, (fun j p hj => by simp at hj), fun f hf => by cases hf⟩
      | succ k ih =>
        obtain ⟨F, f1, f2, f3⟩ := ih (fun i hi => hex i (by omega))
        obtain ⟨p, ⟨blk, off, e, c0, c1, c2⟩, g1⟩ := hex k (by omega)
        refine ⟨F ++ [p], by simp [f1], ?_, ?_⟩
        · intro j q hj
          by_cases hjk : j < F.length
          · rw [List.getElem?_append_left hjk] at hj; exact f2 j q hj
          · have hlt := (List.getElem?_eq_some_iff.1 hj).1
            have hjk2 : j = k := by simp at hlt; omega
            subst hjk2
            rw [List.getElem?_append_right (by omega), f1, Nat.sub_self] at hj
            simp at hj
            subst hj
            refine ⟨blk, off, e, ?_, c0, c1, c2, g1.at_, fun b eb hne => ?_⟩
            · exact cell_ltF c0
            · cases hxs : p.xs with
              | nil => exact absurd hxs hne
              | cons y ys =>
                obtain ⟨b', e', hc'⟩ := g1.at_ 0 y (by rw [hxs]; rfl)
                rw [eb] at e'
                cases e'
                have := cell_ltF hc'
                rwa [show (b.add 0).block = b.block by unfold Addr.add; split <;> rfl] at this
        · intro f hf
          rcases List.mem_append.1 hf with hf | hf
          · exact f3 f hf
          · rw [List.mem_singleton.1 hf]
            have := g1.sm
            exact ⟨⟨g1.len, g1.fits, by omega, g1.byt⟩, g1.nil, by omega⟩
    exact ⟨some a, cap0, gs, by rw [q1], ⟨q2, q3, fun e => by cases e⟩, by rw [q1]; exact hl⟩
end Go.Proofs.YtinkkocleognbaaGreatDoor
/- ReplayOf, walked. -/
namespace Go.Proofs.YtinkkocleognbaaGreatDoor
open Go.RowKit Go.Shelf
attribute [local go_sem ↓] Go.wp_at_zero Go.wp_at_succ
attribute [local go_sem] Oper.semAt_some
theorem Dl.far {w w' : World} {lo n : Nat} {v : Value} {f : Nat → Sb} {ds : List (Nat × Value)} {X : Nat → Prop} (h : Dl w lo v f n ds) (k : Kept w w' X) (hX : ∀ i, lo ≤ i → i < w.heap.size → ¬ X i) : Dl w' lo v f n ds :=
  ⟨h.len, Ix.row_keep h.row (fun q hq => by obtain ⟨h1, cur, hc⟩ := Ix.own_block h.row hq; exact k.block q (row_lt hc) (hX q h1 (row_lt hc))), fun j x hj => (h.bk j x hj).far k (fun i hi => hX i ((h.bk j x hj).lows i hi) ((h.bk j x hj).lt i hi))⟩
theorem Dl.cell {w : World} {lo n g c k : Nat} {f : Nat → Sb} {ds : List (Nat × Value)} {x : Nat × Value} (h : Dl w lo (.slice (some ⟨g, 0, none⟩) n c) f n ds) (hk : ds[k]? = some x) : w.cell? ⟨g, k, none⟩ = some (.pointer (some ⟨x.1, 0, none⟩)) := by
  have hl := (List.getElem?_eq_some_iff.1 hk).1
  rw [h.len] at hl
  obtain ⟨g', c', cur, e, -, hg, -, -, -, ht⟩ := Ix.own_row h.row (by omega)
  cases e
  refine Ix.own_cell hg ht ?_
  unfold dps
  rw [List.getElem?_map, hk]
  rfl
/-- Inside the range, between two states. -/
structure OfI (wb W : World) (B : Nat) (pre : List (Nat × Bp)) (O : Nat → Prop) : Prop where
  kp : Kept wb W (fun i => i = B)
  no : ∀ i, O i → wb.heap.size ≤ i
  bx : W.heap[B]? = some (.cells [Value.int .i64 (pre.length : Int)].toArray 3 (0, 0))
theorem OfI.goes {wb : World} {B : Nat} (hB : B < wb.heap.size) : Goes (fun pre O W => OfI wb W B pre O) := fun _ O O' A A' h k hOO =>
  ⟨(h.kp.trans (k.mono (fun i _ e => show i = B ∨ wb.heap.size ≤ i from .inr (h.no i e))) (fun i hi e => by rcases e with e | e; exact e; omega)), fun i hi => by
    rcases hOO i hi with e | e
    · exact h.no i e
    · exact Nat.le_trans h.kp.size e, k.at h.bx (fun e => by have := h.no _ e; omega)⟩
end Go.Proofs.YtinkkocleognbaaGreatDoor
/- ReplayRuns, walked. -/
namespace Go.Proofs.YtinkkocleognbaaGreatDoor
open Go.RowKit Go.Shelf
attribute [local go_sem ↓] Go.wp_at_zero Go.wp_at_succ
attribute [local go_sem] Oper.semAt_some
/-- In the midst of the loop. -/
structure LoR (w5 wr : World) (on : Nat) (S0 : Sb) (l : List Cg) (j : Nat) (q : Value) (fs : List Fm) : Prop where
  db : ∃ v, Db wr w5.heap.size on v (hS S0 l j)
  fr : FsS w5 wr q fs
  gr : w5.grownBy wr none
  len : fs.length = j
theorem hs_apps (x : Int) (l : List Cg) : rE (nS (sa x) (sb x) (sc x)) (hs x l false) = 0 ∧ rn (nS (sa x) (sb x) (sc x)) (hs x l false) = (hs x l false).length ∧ fo (nS (sa x) (sb x) (sc x)) (hs x l false) (hs x l false).length = hS (nS (sa x) (sb x) (sc x)) (fw l) (fw l).length := hist_yes _ _
set_option maxRecDepth 100000 in
set_option maxHeartbeats 40000000 in
theorem runs_any {w : World} {a1 a2 bo : Option Addr} {c1 c2 gc : Nat} {l1 l2 : List Cg} {gs : List Fm} (x : Int) (h1 : l1.length ≤ c1) (h2 : l2.length ≤ c2) (h3 : gs.length ≤ gc) (hC1 : CgsAt w a1 l1) (hC2 : CgsAt w a2 l2) (hGv : Gv w bo gc gs) (hT : Rk.Tab w) :
    Calls Tryz.prog 6 #[.int .i64 x, .slice a1 l1.length c1, .slice a2 l2.length c2, .slice bo gs.length gc] w fun e w' => e = .returned (.bool true) ∧ w.grownBy w' none := by
  have hos := s_ok x
  have HSp : Hid (∀ W, Calls Tryz.prog 20 #[.int .i64 x] W fun e w' => e = .returned (.agg #[.int .i64 (sa x : Int), .int .i64 (sb x : Int), .int .i64 (sc x : Int)]) ∧ W.grownBy w' none) := fun W => mshape_any x W
  have HFw1 : Hid (∀ W, Calls Tryz.prog 22 #[.slice a1 l1.length c1] W fun e w' => e = .returned (.slice a1 (fw l1).length c1) ∧ w' = W) := fun W => few_any l1 h1 W
  have HFw2 : Hid (∀ W, Calls Tryz.prog 22 #[.slice a2 l2.length c2] W fun e w' => e = .returned (.slice a2 (fw l2).length c2) ∧ w' = W) := fun W => few_any l2 h2 W
  obtain ⟨e1, e2, e3⟩ := hs_apps x l1
  obtain ⟨S0, hS0⟩ : ∃ S0, S0 = nS (sa x) (sb x) (sc x) := ⟨_, rfl⟩
  have hok0 : S0.Ok := by rw [hS0]; exact nS_ok hos
  obtain ⟨S, hS'⟩ : ∃ S, S = hS S0 (fw l1) (fw l1).length := ⟨_, rfl⟩
  have hokS : S.Ok := by rw [hS']; exact hS_ok hok0 _ _
  have htS : S.t ≤ 840 := by
    have := hS_t hok0 (fw l1) (fw l1).length
    have hl := fw_len l1
    rw [← hS'] at this
    have h0 : S0.t = 0 := by rw [hS0]; rfl
    omega
  obtain ⟨rs, hrs⟩ : ∃ rs, rs = hs x l1 false := ⟨_, rfl⟩
  obtain ⟨n, hn⟩ : ∃ n, n = rs.length := ⟨_, rfl⟩
  rw [← hS0, ← hrs] at e1 e2 e3
  rw [← hS'] at e3
  have HHs1 : Hid (∀ W, w.grownBy W none → Calls Tryz.prog 21 #[.agg #[.int .i64 (sa x : Int), .int .i64 (sb x : Int), .int .i64 (sc x : Int)], .slice a1 (fw l1).length c1, .bool false] W fun e w' => ∃ so c2, e = .returned (.slice so n c2) ∧ Rw w' W.heap.size so c2 rs ∧ W.grownBy w' none) := fun W g => by rw [hn, hrs]; exact hs_any x l1 false hC1 g
  have hO : ∀ r ∈ rs, r.Ok := by rw [hrs]; exact fun r hr => (hs_mem x l1 false r hr).2
  have hn120 : n ≤ 120 := by rw [hn, hrs]; exact hs_len x l1 false
  have HOf : Hid (∀ W B0 so c3, w.grownBy W none → Rw W B0 so c3 rs → Calls Tryz.prog 10 #[.agg #[.int .i64 (sa x : Int), .int .i64 (sb x : Int), .int .i64 (sc x : Int)], .slice so n c3] W fun e w' => ∃ d p m, e = .returned (.tuple #[.pointer (some ⟨d, 0, none⟩), .int .i64 m, .int .i64 0]) ∧ Lb W w' d S p ∧ W.grownBy w' none) := fun W B0 so c3 gW hR => by
    have := of_lb (c2 := c3) x (h := rs) (by omega) hR.at hO (hT.new gW)
    rw [← hS0, e1, e2, e3, ← hn] at this
    refine this.mono ?_
    rintro e w' ⟨d, p, rfl, hb, hg⟩
    exact ⟨d, p, _, rfl, hb, hg⟩
  have HDs : Hid (∀ W B0 so c3, w.grownBy W none → Rw W B0 so c3 rs → Calls Tryz.prog 16 #[.agg #[.int .i64 (sa x : Int), .int .i64 (sb x : Int), .int .i64 (sc x : Int)], .slice so n c3] W fun e w' => ∃ v, e = .returned (.tuple #[v, .int .i64 0]) ∧ DsP W w' v (fo S0 rs) (n + 1)) := fun W B0 so c3 gW hR => by
    have := dstates_any (cap := c3) hos hn.symm (by omega) hR.at hO
    unfold limV at this
    rw [← hS0, e1, e2, ← hn] at this
    exact this
  rw [← hn] at e3
  have HE3 := hide e3
  have HOkS := hide (And.intro hokS htS)
  obtain ⟨l, hl⟩ : ∃ l, l = fw l2 := ⟨_, rfl⟩
  obtain ⟨m, hm⟩ : ∃ m, m = l.length := ⟨_, rfl⟩
  have hm120 : m ≤ 120 := by rw [hm, hl]; exact fw_len l2
  have hml : m ≤ l2.length := by rw [hm, hl]; unfold fw; rw [List.length_take]; omega
  have hCl : CgsAt w a2 l := by rw [hl]; exact hC2.take 120
  rw [← hl, ← hm] at HFw2
  have HAw : Hid (∀ W, w.grownBy W none → Calls Tryz.prog 13 #[] W fun e w' => e = .returned (.bool true) ∧ W.grownBy w' none) := fun W g => awake_any W (hT.new g)
  have HT := hide hT
  have HCl := hide hCl
  have HGv := hide hGv
  have HM := hide (And.intro hm hml)
  have hl2b := Nat.le_trans hml (Nat.le_refl _)
  have HN := hide hn
  obtain ⟨i0, hi0, hz0, hz1, hz2⟩ := info_parts info41
  have HI0 := hide (And.intro hi0 (And.intro hz0 (And.intro hz1 hz2)))
  clear hi0 hz0 hz1 hz2
  clear hC1 hC2 hCl hGv hT h1 hos hO hrs hn e1 e2 e3 hS' hokS hok0 hS0 htS hl hm hl2b
  generalize l2.length = L2 at *
  obtain ⟨A, hA⟩ : ∃ A : Int, A = (sa x : Int) := ⟨_, rfl⟩
  obtain ⟨Bb, hBb⟩ : ∃ A : Int, A = (sb x : Int) := ⟨_, rfl⟩
  obtain ⟨Cc, hCc⟩ : ∃ A : Int, A = (sc x : Int) := ⟨_, rfl⟩
  rw [← hA, ← hBb, ← hCc] at HSp HHs1 HOf HDs
  clear hA hBb hCc
  go_enter Tryz.func6, Tryz.ntmps6
  go_wp2_with fail
  refine (HSp.out _).mono ?_
  clear HSp
  rintro e w1 ⟨rfl, g1⟩
  obtain ⟨w2, hw2⟩ : ∃ w2, w1.alloc (.cells #[.int .i64 A, .int .i64 Bb, .int .i64 Cc] 23) = w2 := ⟨_, rfl⟩
  obtain ⟨B9, hB9⟩ : ∃ B9, w1.heap.size = B9 := ⟨_, rfl⟩
  have b9 : w2.heap[B9]? = some (.cells #[.int .i64 A, .int .i64 Bb, .int .i64 Cc] 23) := by rw [← hw2, ← hB9]; exact heap_alloc_new w1 _
  have g02 : w.grownBy w2 none := by rw [← hw2]; exact gn_alloc g1 _
  have HKf : Hid (∀ W, w2.grownBy W none → W.cell? ⟨B9, 0, none⟩ = some (.int .i64 A) ∧ W.cell? ⟨B9, 1, none⟩ = some (.int .i64 Bb) ∧ W.cell? ⟨B9, 2, none⟩ = some (.int .i64 Cc)) := by
    intro W gW
    have c := Ge.cell3 ((gW.block _ (row_lt b9) (by simp)).trans b9)
    have s0 := c 0
    have s1 := c 1
    have s2 := c 2
    simp only [Ge.getElem?_v0, Ge.getElem?_v1, Ge.getElem?_v2] at s0 s1 s2
    exact ⟨s0, s1, s2⟩
  have G2 := hide g02
  have HW2 := hide (And.intro hw2 hB9)
  clear hw2 hB9 b9 g02 g1
  go_upto_region 2 with fail
  rw [HW2.out.1, HW2.out.2]
  clear HW2
  have hK0 := HKf.out w2.drew (grown_drew w2 none)
  go_region_held3 (fun W => W.cell? ⟨B9, 0, none⟩ = some (.int .i64 A) ∧ W.cell? ⟨B9, 1, none⟩ = some (.int .i64 Bb) ∧ W.cell? ⟨B9, 2, none⟩ = some (.int .i64 Cc)) (first | assumption | exact hK0) ((first | (go_at_call 22; refine (HFw1.out _).mono ?_; rintro e wy ⟨rfl, hwy⟩; obtain rfl := hwy.symm) | (go_at_call 21; refine (HHs1.out _ (grown_trans G2.out (grown_drew w2 none))).mono ?_; rintro e w3 ⟨so, cp, rfl, hR, g3⟩; have hK3 := HKf.out w3 (grown_trans (grown_drew w2 none) g3); have H3 := hide (And.intro hR (grown_trans (grown_drew w2 none) g3)); clear hR g3)))
  clear hK0 HFw1 HHs1
  obtain ⟨s0, s1, s2⟩ := HKf.out w3 H3.out.2
  have HOf1 := hide (HOf.out w3 _ _ _ (grown_trans G2.out H3.out.2) H3.out.1)
  clear HOf hK3
  go_wp2_with fail
  refine HOf1.out.mono ?_
  clear HOf1 s0 s1 s2
  rintro e w4 ⟨bb, p, nm, rfl, hb4, g4⟩
  have G4 := hide (grown_trans H3.out.2 g4)
  have HB4 := hide hb4
  obtain ⟨s0, s1, s2⟩ := HKf.out w4 G4.out
  have HDs1 := hide (HDs.out w4 _ _ _ (grown_trans G2.out G4.out) (H3.out.1.then g4))
  clear hb4 g4 HDs
  go_wp2_with fail
  refine HDs1.out.mono ?_
  clear HDs1 s0 s1 s2
  rintro e w5 ⟨v5, rfl, ds, hD, g5⟩
  obtain ⟨gv, cv, cur5, rfl, -⟩ := Ix.own_row hD.row (by omega)
  obtain ⟨⟨dx, dv⟩, hdx⟩ : ∃ y, ds[n]? = some y := ⟨ds[n]'(by rw [hD.len]; omega), List.getElem?_eq_getElem _⟩
  have hcx := hD.cell hdx
  have hbk := hD.bk n _ hdx
  rw [HE3.out] at hbk
  have hX : S.L.length ≤ 65536 := by have := HOkS.out.1.wk.few; have := HOkS.out.1.wk.b1; omega
  have HC1 := hide (dcopy_any hbk hX)
  have G5 := hide (And.intro g5 (grown_trans G4.out g5))
  have W1 : IntKind.i64.wrap (((n + 1 : Nat) : Int) - 1) = (n : Int) := by rw [IntKind.wrap_i64]; omega
  have W2 : IntKind.i64.wrap ((n : Int) + 1 - 1) = (n : Int) := by rw [IntKind.wrap_i64]; omega
  have n0 : (0 : Int) ≤ (n : Int) := by omega
  have n1 : (n : Int) < (n : Int) + 1 := by omega
  have n2 : (n : Int) < ((n + 1 : Nat) : Int) := by omega
  have HX := hide hX
  clear hD g5 hdx hbk hX
  go_wp2_with fail
  refine HC1.out.mono ?_
  rintro e w6 ⟨d, vd, rfl, hd6, g6⟩
  have HC2 := hide (dcopy_any hd6 HX.out)
  have H6 := hide (And.intro hd6 g6)
  clear HC1 hd6 g6 hcx
  go_wp2_with fail
  refine HC2.out.mono ?_
  rintro e w7 ⟨on, vo, rfl, ho7, g7⟩
  have hL0 : hS S l 0 = S := rfl
  have H7 : Hid (LoR w6 w7 on S l 0 (.slice none 0 0) []) := ⟨⟨vo, by rw [hL0]; exact ho7⟩, FsS.nil w6 w7, g7, rfl⟩
  have GW6 := hide (grown_trans G2.out (grown_trans G5.out.2 H6.out.2))
  clear HC2 ho7 g7 hL0
  go_wp2
  go_loopg [18, 19] m (fun k q18 q19 wr => ∃ (j : Nat) (vq : Option Addr) (cq : Nat) (fs : List Fm), k + j = m ∧ q19 = .int .i64 (j : Int) ∧ q18 = .slice vq j cq ∧ Hid (LoR w6 wr on S l j (.slice vq j cq) fs))
  case atStart => exact ⟨0, none, 0, [], by omega, rfl, rfl, H7.out⟩
  case round =>
    clear H7
    obtain ⟨j, vq, cq, fs, hkj, rfl, rfl, HH⟩ := hrel
    have HF2 := hide (HFw2.out wr)
    by_cases hk : 0 < gk
    · have hj : j < m := by omega
      have j1 : (j : Int) < (m : Int) := by omega
      have j0 : (0 : Int) ≤ (j : Int) := by omega
      have jL : (j : Int) < (L2 : Int) := by have := HM.out.2; omega
      have jw : IntKind.i64.wrap ((j : Int) + 1) = (j : Int) + 1 := by rw [IntKind.wrap_i64]; omega
      have ju : IntKind.u64.wrap (j : Int) = (j : Int) := by rw [IntKind.wrap_u64]; omega
      obtain ⟨c', hc'⟩ : ∃ c', l[j]? = some c' := ⟨l[j]'(by have := HM.out.1; omega), List.getElem?_eq_getElem _⟩
      obtain ⟨rb, off, rfl, k0, k1, k2, k3⟩ := (HCl.out.grown (grown_trans GW6.out HH.out.gr)) j c' hc'
      obtain ⟨von, hdb⟩ := HH.out.db
      have HD := hide hdb
      have d5 := hdb.cell (j := 5) rfl
      have d6 := hdb.cell (j := 6) rfl
      have hokj := hS_ok HOkS.out.1 l j
      have htj : (hS S l j).t ≤ 1680 := by have := hS_t HOkS.out.1 l j; have := HOkS.out.2; omega
      have HOkj := hide hokj
      have HRe' : Hid (∀ W, Calls Tryz.prog 25 #[.agg #[.int .i64 c'.k, .int .i64 c'.i, .int .i64 c'.s, .int .i64 c'.t], .int .u32 ((hS S l j).n : Int), .int .i64 (hS S l j).t] W fun e w' => e = .returned (.agg (rcc (cgR c' (hS S l j).n (hS S l j).t)).toArray) ∧ W.grownBy w' none) := fun W => mrec_any c' _ _ hokj.n0 hokj.n1 hokj.t0 hokj.t1 W
      obtain ⟨r, hr⟩ : ∃ r, r = cgR c' (hS S l j).n (hS S l j).t := ⟨_, rfl⟩
      have HOkR : Hid (r.Ok ∧ r.May) := by rw [hr]; exact ⟨cgR_ok hokj.n0 hokj.n1 hokj.t0 hokj.t1, cgR_may hokj.n0 hokj.t0 (by unfold mxC; omega)⟩
      have HSj : Hid (hS S l (j + 1) = app (hS S l j) r) := by rw [hr]; exact hS_succ hc'
      rw [← hr] at HRe'
      have HKg : Hid (∀ W, wr.grownBy W none → W.cell? ⟨rb, off + j * 4, none⟩ = some (.int .i64 c'.k) ∧ W.cell? ⟨rb, off + j * 4 + 1, none⟩ = some (.int .i64 c'.i) ∧ W.cell? ⟨rb, off + j * 4 + 2, none⟩ = some (.int .i64 c'.s) ∧ W.cell? ⟨rb, off + j * 4 + 3, none⟩ = some (.int .i64 c'.t) ∧ W.cell? ⟨on, 5, none⟩ = some (.int .u32 ((hS S l j).n : Int)) ∧ W.cell? ⟨on, 6, none⟩ = some (.int .i64 (hS S l j).t)) := fun W g => ⟨g.cell k0 (by simp), g.cell k1 (by simp), g.cell k2 (by simp), g.cell k3 (by simp), g.cell d5 (by simp), g.cell d6 (by simp)⟩
      clear hr hdb hc' hj hokj htj
      unfold rcc at HRe'
      obtain ⟨rk, ri, rs, ru, rc⟩ := r
      obtain ⟨ck, ci, cs, ct⟩ := c'
      simp only at *
      generalize ((hS S l j).n : Int) = Sn at *
      generalize (hS S l j).t = St at *
      go_wp2_with fail
      refine HF2.out.mono ?_
      rintro e wy ⟨rfl, hwy⟩
      obtain rfl := hwy.symm
      clear hwy HF2
      go_upto_region 13 with fail
      go_cut [20] from 67 to 79 (fun v W => ∃ B, v = .pointer (some ⟨B, 0, none⟩) ∧ Hid (W.heap[B]? = some (.cells [Value.int .i64 rk, .int .u32 ri, .int .i64 rs, .int .i64 ru, .int .i64 rc].toArray 47 (0, 0)) ∧ wr.grownBy W none))
      case first =>
        have hK0 := HKg.out wr.drew (grown_drew wr none)
        have hKz := HKg.out _ (gn_drew (grown_alloc wr (.cells #[.int .i64 0, .int .u32 0, .int .i64 0, .int .i64 0, .int .i64 0] 47)))
        refine wp_region_held_drew (S := (fun W => W.cell? ⟨rb, off + j * 4, none⟩ = some (.int .i64 ck) ∧ W.cell? ⟨rb, off + j * 4 + 1, none⟩ = some (.int .i64 ci) ∧ W.cell? ⟨rb, off + j * 4 + 2, none⟩ = some (.int .i64 cs) ∧ W.cell? ⟨rb, off + j * 4 + 3, none⟩ = some (.int .i64 ct) ∧ W.cell? ⟨on, 5, none⟩ = some (.int .u32 Sn) ∧ W.cell? ⟨on, 6, none⟩ = some (.int .i64 St))) (by kernel_rfl) ?_ (fun hHeld => ?_)
        · (exact hK0)
        refine tkQ 0 rfl ?_
        try simp only [Act.put, pA]
        refine tkQ 1 rfl ?_
        try simp only [Act.put]
        refine tkQ 2 rfl ?_
        try simp only [Act.put]
        refine tkQ 3 rfl ?_
        try simp only [Act.put]
        refine tkQ 4 rfl ?_
        try simp only [Act.put]
        refine tkQ 5 rfl ?_
        try simp only [Act.put]
        refine tkQ 6 rfl ?_
        try simp only [Act.put]
        refine tkQ 7 rfl ?_
        try simp only [Act.put]
        refine tkQ 8 rfl ?_
        try simp only [Act.put]
        refine tkQ 9 rfl ?_
        try simp only [Act.put]
        refine tkQ 10 rfl ?_
        try simp only [Act.put]
        refine tkQ 11 rfl ?_
        try simp only [Act.put]
        refine wpAnyH_ready (rs := [12, 13]) (by kernel_rfl) (by simp) ?_
        refine AllReadyH.cons rfl (fun K hK => ?_) ?_
        · skip
          go_simp
          refine (HRe'.out _).mono ?_
          rintro e w2 ⟨rfl, g2⟩
          have G1 := hide (grown_trans (grown_drew wr none) g2)
          have hK1 := HKg.out w2 G1.out
          have hK2 := HKg.out _ (gn_alloc G1.out (.cells #[.int .i64 0, .int .u32 0, .int .i64 0, .int .i64 0, .int .i64 0] 47))
          have hK3 := HKg.out _ (gn_alloc G1.out (.cells #[.int .i64 rk, .int .u32 ri, .int .i64 rs, .int .i64 ru, .int .i64 rc] 47))
          have HZ := hide (And.intro (heap_alloc_new w2 (.cells #[.int .i64 rk, .int .u32 ri, .int .i64 rs, .int .i64 ru, .int .i64 rc] 47)) (gn_alloc G1.out (.cells #[.int .i64 rk, .int .u32 ri, .int .i64 rs, .int .i64 ru, .int .i64 rc] 47)))
          clear g2
          go_wp2_with fail
          refine hK.out _ _ ?_ (fun hHeld => ?_)
          · ((try dsimp only); first | with_reducible exact hK1 | with_reducible exact hK2 | with_reducible exact hK3 | with_reducible exact hK0 | with_reducible exact hKz | exact hK0 | exact hKz | exact hK1 | exact hK2 | exact hK3)
          clear hK K
          try simp only [Act.put, pA, pB, pC]
          refine rdH (i := 13) rfl (fun K hK => ?_)
          go_simp
          refine hK.out _ _ ?_ (fun hHeld => ?_)
          · ((try dsimp only); first | with_reducible exact hK1 | with_reducible exact hK2 | with_reducible exact hK3 | with_reducible exact hK0 | with_reducible exact hKz | exact hK0 | exact hKz | exact hK1 | exact hK2 | exact hK3)
          clear hK K
          try simp only [Act.put, pA, pB, pC]
          refine rdH (i := 14) rfl (fun K hK => ?_)
          go_simp
          refine hK.out _ _ ?_ (fun hHeld => ?_)
          · ((try dsimp only); first | with_reducible exact hK1 | with_reducible exact hK2 | with_reducible exact hK3 | with_reducible exact hK0 | with_reducible exact hKz | exact hK0 | exact hKz | exact hK1 | exact hK2 | exact hK3)
          clear hK K
          try simp only [Act.put, pA, pB, pC]
          refine wpAnyH_done (by kernel_rfl) ?_ _
          go_wp2
          go_meet
          case rel => exact ⟨_, rfl, HZ.out.1, HZ.out.2⟩
        refine AllReadyH.cons rfl (fun K hK => ?_) ?_
        · skip
          go_simp
          refine hK.out _ _ ?_ (fun hHeld => ?_)
          · ((try dsimp only); first | with_reducible exact hK1 | with_reducible exact hK2 | with_reducible exact hK3 | with_reducible exact hK0 | with_reducible exact hKz | exact hK0 | exact hKz | exact hK1 | exact hK2 | exact hK3)
          clear hK K
          try simp only [Act.put, pA, pB, pC]
          refine rdH (i := 12) rfl (fun K hK => ?_)
          go_simp
          refine (HRe'.out _).mono ?_
          rintro e w2 ⟨rfl, g2⟩
          have G2 := hide (grown_trans (grown_drew (wr.alloc (.cells #[.int .i64 0, .int .u32 0, .int .i64 0, .int .i64 0, .int .i64 0] 47)) none) g2)
          have hK1 := HKg.out w2 (grown_trans (grown_alloc wr _) G2.out)
          have HQ5 := hide (Rk.set5 (mid_b G2.out) (.int .i64 rk) (.int .u32 ri) (.int .i64 rs) (.int .i64 ru) (.int .i64 rc))
          have G3 := hide (gn_set (gn_set (gn_set (gn_set (gn_set (grown_trans (grown_alloc wr _) G2.out) (Nat.le_refl _) (j := 0) (v := .int .i64 rk)) (Nat.le_refl _) (j := 1) (v := .int .u32 ri)) (Nat.le_refl _) (j := 2) (v := .int .i64 rs)) (Nat.le_refl _) (j := 3) (v := .int .i64 ru)) (Nat.le_refl _) (j := 4) (v := .int .i64 rc))
          have hK2 := HKg.out _ G3.out
          have HZ := hide (And.intro HQ5.out.1 G3.out)
          obtain ⟨y0, y1, y2, y3, y4⟩ := Rk.box5 (mid_b G2.out)
          have z0 := free_row (mid_b G2.out) 0
          have z1 := free_row (mid_b G2.out) 1
          have z2 := free_row (mid_b G2.out) 2
          have z3 := free_row (mid_b G2.out) 3
          have z4 := free_row (mid_b G2.out) 4
          clear g2
          go_wp2_with fail
          refine hK.out _ _ ?_ (fun hHeld => ?_)
          · ((try dsimp only); first | with_reducible exact hK1 | with_reducible exact hK2 | with_reducible exact hK3 | with_reducible exact hK0 | with_reducible exact hKz | exact hK0 | exact hKz | exact hK1 | exact hK2 | exact hK3)
          clear hK K
          try simp only [Act.put, pA, pB, pC]
          refine rdH (i := 14) rfl (fun K hK => ?_)
          go_simp
          refine hK.out _ _ ?_ (fun hHeld => ?_)
          · ((try dsimp only); first | with_reducible exact hK1 | with_reducible exact hK2 | with_reducible exact hK3 | with_reducible exact hK0 | with_reducible exact hKz | exact hK0 | exact hKz | exact hK1 | exact hK2 | exact hK3)
          clear hK K
          try simp only [Act.put, pA, pB, pC]
          refine wpAnyH_done (by kernel_rfl) ?_ _
          go_wp2
          go_meet
          case rel => exact ⟨_, rfl, HZ.out.1, HZ.out.2⟩
        exact AllReadyH.nil
      case rest =>
        obtain ⟨B, rfl, HB⟩ := hcut
        have hdw := HD.out.then HB.out.2
        have hA := dapply_any hdw HOkj.out ⟨rk, ri, rs, ru, rc⟩ HOkR.out.1
        obtain ⟨y0, y1, y2, y3, y4⟩ := Rk.box5 HB.out.1
        obtain ⟨er, her⟩ : ∃ er, er = appE (hS S l j) ⟨rk, ri, rs, ru, rc⟩ := ⟨_, rfl⟩
        have HA : Hid (Calls Tryz.prog 26 #[.pointer (some ⟨on, 0, none⟩), .agg #[.int .i64 rk, .int .u32 ri, .int .i64 rs, .int .i64 ru, .int .i64 rc]] wc fun e w' => e = .returned (.int .i64 er) ∧ (∃ v', Db w' w6.heap.size on v' (hS S l (j + 1))) ∧ FsS w6 w' (.slice vq j cq) fs ∧ w6.grownBy w' none ∧ w'.heap[B]? = some (.cells [Value.int .i64 rk, .int .u32 ri, .int .i64 rs, .int .i64 ru, .int .i64 rc].toArray 47 (0, 0))) := by
          refine hA.mono ?_
          rintro e w' ⟨v', rfl, h1, h2⟩
          have hBo : ¬ dbo on von B := by
            rintro (e | e)
            · have := HB.out.1; rw [e, hdw.head] at this; cases this
            · obtain ⟨-, cur, hc⟩ := Ix.own_block hdw.row e
              rw [HB.out.1] at hc; cases hc
          exact ⟨by rw [her], ⟨v', by rw [HSj.out]; exact h1⟩, (HH.out.fr.then HB.out.2).dst hdw h2, kept_grown (grown_trans HH.out.gr HB.out.2) h2.kept (fun i hi => hdw.lows i hi), h2.kept.at HB.out.1 hBo⟩
        have HLen := hide HH.out.len
        clear hdw hA her HH HB HD HKg HRe' k0 k1 k2 k3 d5 d6 HOkj HSj
        go_wp2_with fail
        refine HA.out.mono ?_
        rintro e w8 ⟨rfl, hdb8, hfs8, hg8, hB8⟩
        obtain ⟨x0, x1, x2, x3, x4⟩ := Rk.box5 hB8
        have H8 := hide (And.intro hdb8 (And.intro hfs8 hg8))
        have hby : Calls Tryz.prog 27 #[.agg #[.int .i64 rk, .int .u32 ri, .int .i64 rs, .int .i64 ru, .int .i64 rc]] w8 _ := bytes_any (r := ⟨rk, ri, rs, ru, rc⟩) HOkR.out.2 HOkR.out.1.i1 w8
        have HBy := hide hby
        have hsz := sz_le rk
        have hsp := sz_pos (may_kind HOkR.out.2)
        have HOut := hide (And.intro (out_length HOkR.out.2) (out_byt HOkR.out.2))
        clear hdb8 hfs8 hg8 hB8 HA y0 y1 y2 y3 y4 hby
        dsimp only at HBy HOut hsp
        generalize sz rk = nb at *
        generalize (Rc.out ⟨rk, ri, rs, ru, rc⟩) = out at *
        go_wp2_with fail
        refine HBy.out.mono ?_
        rintro e w9 ⟨vb, rfl, hob, hg9⟩
        obtain ⟨gb, cb, curb, rfl, hgb, hcb, hnb, -, -, -⟩ := Ix.own_row hob hsp
        obtain ⟨ao9, cap9, e9, -, -, -, hat9, -⟩ := Oc.own_at hob
        cases e9
        have H9 := hide (And.intro hgb (And.intro hcb (And.intro hnb hat9)))
        have hfs9 := H8.out.2.1.then hg9
        have g10 := grown_alloc w9 (.cells #[.int .u64 0, .int .u64 (j : Int), .slice (some ⟨gb, 0, none⟩) nb cb] 41)
        have HRow : Hid ((w9.alloc (.cells #[.int .u64 0, .int .u64 (j : Int), .slice (some ⟨gb, 0, none⟩) nb cb] 41)).ownsRow w6.heap.size 41 3 (.slice vq j cq) j (lfcs (fs.map fmL))) := by
          have := (hfs9.then g10).row
          rw [HLen.out] at this
          exact this
        have HCx : Hid (∀ (z : Nat) (y : Value), (lfcs [⟨0, (j : Int), .slice (some ⟨gb, 0, none⟩) nb cb⟩])[z]? = some y → (w9.alloc (.cells #[.int .u64 0, .int .u64 (j : Int), .slice (some ⟨gb, 0, none⟩) nb cb] 41)).cell? (Addr.add ⟨w9.heap.size, 0, none⟩ z) = some y) := fun z y hz => by
          rw [Addr.add_lit, Nat.zero_add, cell_row (heap_alloc_new w9 (.cells [Value.int .u64 0, .int .u64 (j : Int), .slice (some ⟨gb, 0, none⟩) nb cb].toArray 41))]
          exact hz
        have H10 := hide (And.intro (hfs9.then g10) (And.intro (grown_trans hg9 g10) (And.intro g10 (grown_trans H8.out.2.2 (grown_trans hg9 g10)))))
        have hjb : j ≤ 120 := by omega
        clear hob hg9 hgb hcb hnb hat9 hfs9 g10 HBy
        go_wp2_with (at_builtin; refine wpList_append_own _ rfl (.tmp 83) (.tmp 89) 42 rfl w6.heap.size 41 i0 (.agg #[.int .u64 0, .int .u64 0, .slice none 0 0]) 3 40 Tryz.underlying42 HI0.out.1 HI0.out.2.1 HI0.out.2.2.1 HI0.out.2.2.2 rfl (by decide) (.slice vq j cq) j (lfcs (fs.map fmL)) rfl HRow.out ⟨w9.heap.size, 0, none⟩ 1 1 (lfcs [⟨0, (j : Int), .slice (some ⟨gb, 0, none⟩) nb cb⟩]) rfl rfl HCx.out (lfcs_one (fun x hx => by rw [List.mem_singleton.1 hx]; rfl)) (by unfold maxLen; omega) (by omega) H10.out.2.2.2.size ?_)
        intro v' w11 hov hg11 hv
        clear hv
        obtain ⟨vo', vc', rfl, -⟩ := Ix.own_form hov
        have HN2 : Hid (LoR w6 w11 on S l (j + 1) (.slice vo' (j + 1) vc') (fs ++ [⟨0, (j : Int), some ⟨gb, 0, none⟩, nb, cb, out⟩])) := by
          obtain ⟨v3, hd3⟩ := H8.out.1
          obtain ⟨f10, g810, g910, g610⟩ := H10.out
          obtain ⟨q1, q2, q3, q4⟩ := H9.out
          refine ⟨⟨v3, f10.far (hd3.then g810) hg11⟩, f10.push ?_ hg11 ⟨gb, rfl, Nat.le_trans H8.out.2.2.size q1, ⟨curb.toArray, (g910.block gb (row_lt q2) (by simp)).trans q2⟩, At_keep (show Oc.At w9 _ _ from q4) (Kept.new g910 (fun _ => False)) (fun _ _ _ e => e)⟩ ⟨⟨HOut.out.1, q3, by show nb ≤ _; omega, HOut.out.2⟩, hsz⟩, ?_, by rw [List.length_append, HLen.out]; rfl⟩
          · rw [lfcs_append, HLen.out]; exact hov
          · exact kept_grown g610 (Kept.of hg11 (S := fun i => (Value.slice vq j cq).ownBlock = some i) (fun i e _ => e)) (fun i hi => (Ix.own_block f10.row hi).1)
        clear hov hg11 H8 H9 H10 HRow HCx HOut HOkR HLen
        go_wp2
        go_roundg (gk - 1)
        case measure => omega
        case rel => exact ⟨j + 1, vo', vc', _, by omega, by go_num, rfl, HN2.out⟩
    · obtain rfl : m = j := by omega
      go_wp2_with fail
      refine HF2.out.mono ?_
      rintro e wy ⟨rfl, hwy⟩
      obtain rfl := hwy.symm
      clear hwy HF2 HFw2
      have hgi : (gs.take 120).length ≤ 120 := by rw [List.length_take]; omega
      go_upto_if 93 with fail
      go_cut [3] from 91 to 95 (fun v W => v = .slice bo (gs.take 120).length gc ∧ W = wr)
      case first =>
        by_cases hg : 120 < gs.length
        · have hgt : (120 : Int) < (gs.length : Int) := by omega
          have e : (gs.take 120).length = 120 := by rw [List.length_take]; omega
          have hsl := slice_toF bo gs.length gc 120 (by omega)
          rw [show ((120 : Nat) : Int) = 120 from rfl] at hsl
          have HE := hide e
          clear e hg
          go_wp2
          go_meet
          case rel => exact ⟨by rw [HE.out], rfl⟩
        · have hgt : (gs.length : Int) ≤ 120 := by omega
          have e : (gs.take 120).length = gs.length := by rw [List.length_take]; omega
          have HE := hide e
          clear e hg
          go_wp2
          go_meet
          case rel => exact ⟨by rw [HE.out], rfl⟩
      case rest =>
      obtain ⟨rfl, hwx⟩ := hcut
      obtain rfl := hwx.symm
      clear hwx
      have HGi := hide (HGv.out.take 120)
      generalize gs.take 120 = gi at *
      obtain ⟨k, hk'⟩ : ∃ k, k = gi.length := ⟨_, rfl⟩
      have HK := hide hk'
      rw [← hk'] at hgi ⊢
      clear hk'
      go_upto_region 18 with fail
      go_cut [18] from 96 to 98 (fun v W => ∃ vo vc, v = .slice vo (m + k) vc ∧ Hid (AlS w w6 W (.slice vo (m + k) vc) (fs ++ gi) ∧ w6.grownBy W none))
      case first =>
        have HRow : Hid (wr.ownsRow w6.heap.size 41 3 (.slice vq m cq) m (lfcs (fs.map fmL))) := by
          have := HH.out.fr.row
          rw [HH.out.len] at this
          exact this
        have HAl : Hid (∀ v' w', w'.ownsRow w6.heap.size 41 3 v' (m + k) (lfcs (fs.map fmL) ++ lfcs (gi.map fmL)) → wr.grownBy w' (Value.slice vq m cq).ownBlock → AlS w w6 w' v' (fs ++ gi) ∧ w6.grownBy w' none) := fun v' w' ho hg => by
          refine ⟨als_of (grown_trans GW6.out HH.out.gr) HH.out.fr HGi.out (by rw [HH.out.len, ← HK.out]; exact ho) hg GW6.out.size, ?_⟩
          exact kept_grown HH.out.gr (Kept.of hg (S := fun i => (Value.slice vq m cq).ownBlock = some i) (fun i e _ => e)) (fun i hi => (Ix.own_block HH.out.fr.row hi).1)
        cases bo with
        | none =>
          obtain ⟨hg0, hgc⟩ := HGi.out.nil rfl
          have hk0 : k = 0 := by rw [HK.out, hg0]; rfl
          subst hgc hk0
          have HR2 : Hid (wr.ownsRow w6.heap.size 41 3 (.slice vq m cq) (m + 0) (lfcs (fs.map fmL) ++ lfcs (gi.map fmL))) := hide (by rw [hg0]; simpa [lfcs] using HRow.out)
          go_wp2_with (at_builtin; refine wpList_append_own_none rfl (.tmp 96) (.tmp 97) 42 rfl w6.heap.size 41 i0 3 Tryz.underlying42 HI0.out.1 (.slice vq m cq) m (lfcs (fs.map fmL)) rfl HRow.out rfl ?_)
          go_wp2
          go_meet
          case rel => exact ⟨_, _, rfl, HAl.out _ _ HR2.out (grown_refl _ _)⟩
        | some ad =>
          have HCe := hide (HGi.out.cells (grown_trans GW6.out HH.out.gr))
          have hln : (lfcs (gi.map fmL)).length = k * 3 := by rw [lfcs_length, List.length_map, ← HK.out]
          have HLn := hide hln
          clear hln
          go_wp2_with (at_builtin; refine wpList_append_own _ rfl (.tmp 96) (.tmp 97) 42 rfl w6.heap.size 41 i0 (.agg #[.int .u64 0, .int .u64 0, .slice none 0 0]) 3 40 Tryz.underlying42 HI0.out.1 HI0.out.2.1 HI0.out.2.2.1 HI0.out.2.2.2 rfl (by decide) (.slice vq m cq) m (lfcs (fs.map fmL)) rfl HRow.out ad k gc (lfcs (gi.map fmL)) rfl HLn.out HCe.out (lfcs_one (fmL_one gi)) (by unfold maxLen; omega) (by omega) HH.out.gr.size ?_)
          intro v' w12 hov hg12 hv
          clear hv
          obtain ⟨vo', vc', rfl, -⟩ := Ix.own_form hov
          have HX := hide (HAl.out _ _ hov hg12)
          clear hov hg12
          go_wp2
          go_meet
          case rel => exact ⟨_, _, rfl, HX.out⟩
      case rest =>
      obtain ⟨av, ac, rfl, HAl⟩ := hcut
      have hN : (fs ++ gi).length = m + k := by rw [List.length_append, HH.out.len, HK.out]
      generalize fs ++ gi = al at *
      clear HH HGi HK HCl HM HGv HI0
      obtain ⟨N, hNe⟩ : ∃ N, N = m + k := ⟨_, rfl⟩
      rw [← hNe] at HAl hN ⊢
      have hNb : N ≤ 240 := by omega
      clear hNe hgi
      have GW := hide (grown_trans GW6.out HAl.out.2)
      have HFm : Hid (FmsAt wc (FBd w w6 wc) av al) := (by have := HAl.out.1; rw [← hN] at this; exact this : AlS w w6 wc (.slice av al.length ac) al).fms GW.out.size
      have HLe := hide (lentFs_any (cap := ac) hN HFm.out HAl.out.1.ok (by omega))
      have HNe := hide hN
      clear hN
      go_wp2_with fail
      refine HLe.out.mono ?_
      clear HLe
      rintro e w13 ⟨g, c, L, rfl, hL, hLs⟩
      have HLs := hide (And.intro hL hLs)
      obtain ⟨fs', f1, f2, f3, f4⟩ := fms_lent hL HNe.out hLs.c (fun f hf => (HAl.out.1.ok f hf).1)
      have G13 := hide (grown_trans GW.out hLs.gr)
      have hb13 : BkAt w13 p S 10000 := HB4.out.bk.then (grown_trans G5.out.1 (grown_trans H6.out.2 (grown_trans HAl.out.2 hLs.gr)))
      have HPlt : Hid (∀ i, p.own i → w.heap.size ≤ i ∧ i < w4.heap.size) := fun i hi => ⟨Nat.le_trans (grown_trans G2.out H3.out.2).size (HB4.out.own i hi), HB4.out.bk.lt i hi⟩
      have HSz : Hid (w4.heap.size ≤ w5.heap.size ∧ w5.heap.size ≤ w6.heap.size ∧ w6.heap.size ≤ wc.heap.size ∧ wc.heap.size ≤ w13.heap.size) := ⟨G5.out.1.size, H6.out.2.size, HAl.out.2.size, hLs.gr.size⟩
      have hrun := run_any (cap := c) hb13 HOkS.out.1 (by omega) (HT.out.new G13.out) (by omega) f3 (fun i hi => ⟨fun hp => by have := (HPlt.out i hp).2; have := HSz.out; omega, hi.2⟩) HB4.out.bk.z f4
      rw [f1, f2, HB4.out.eb] at hrun
      obtain ⟨bN, hbN⟩ : ∃ b, b = bn S (bds al) := ⟨_, rfl⟩
      obtain ⟨bEr, hbE⟩ : ∃ b, b = bE S (bds al) := ⟨_, rfl⟩
      obtain ⟨S2, hS2⟩ : ∃ b, b = bfo S (bds al) bN := ⟨_, rfl⟩
      rw [← hbN, ← hbE, ← hS2] at hrun
      have HB2 := hide (And.intro hbN (And.intro hbE hS2))
      have hok2 : S2.Ok := by rw [hS2]; exact bfo_ok HOkS.out.1 _ _
      have HOk2 := hide hok2
      have HRun := hide hrun
      clear hbN hbE hS2 hok2
      have hd13 : Db w13 w5.heap.size d vd S := H6.out.1.then (grown_trans HAl.out.2 hLs.gr)
      have HD13 := hide (And.intro hd13 (HFm.out.then hLs.gr))
      have HDlt : Hid (∀ i, dbo d vd i → w5.heap.size ≤ i ∧ i < w6.heap.size) := fun i hi => ⟨H6.out.1.lows i hi, H6.out.1.lt i hi⟩
      clear hrun hL hLs f1 f2 f3 f4 hb13 hd13 HFm
      go_wp2_with fail
      refine HRun.out.mono ?_
      clear HRun
      rintro e w14 ⟨q, rfl, hq14, hst⟩
      have K14 : Kept w13 w14 p.own := hst.kept
      have hd14 : Db w14 w5.heap.size d vd S := HD13.out.1.far K14 (fun i hi hp => by have := (HPlt.out i hp).2; have := (HDlt.out i hi).1; have := HSz.out; omega)
      have hf14 : FmsAt w14 (FBd w w6 wc) av al := HD13.out.2.keep K14 (fun i hi hp => by have := HPlt.out i hp; have := HSz.out; rcases hi.1 with h | h <;> omega)
      have G14 := hide (kept_grown G13.out K14 (fun i hp => (HPlt.out i hp).1))
      have hl14 : LfC w14 wc.heap.size (.slice (some ⟨g, 0, none⟩) (N + 12) c) al (L ++ mkFs 1 12) := HLs.out.2.c.far K14 (fun b hb hp => by have := (lfo_new HLs.out.2 HLs.out.1 HNe.out b hb).1; have := (HPlt.out b hp).2; have := HSz.out; omega)
      have hdr := drun_any (cap := ac) (fun xs ao n cap W h1 h2 h3 h4 => Bh.get_ref xs h1 ao n cap W h2 h3 h4) hd14 HOkS.out.1 (by have := HNe.out; omega) hf14 (fun i hi => ⟨fun hd => by have := HDlt.out i hd; have := HSz.out; have := G5.out.2.size; have := G2.out.size; rcases hi.1 with h | h <;> omega, by have := hi.2; have := HSz.out; have := K14.size; omega⟩) (fun f hf => (HAl.out.1.ok f hf).1)
      rw [HNe.out, ← HB2.out.1, ← HB2.out.2.1, ← HB2.out.2.2] at hdr
      have HDr := hide hdr
      have HQo : Hid (∀ i, q.own i → i < w4.heap.size ∨ w13.heap.size ≤ i) := fun i hi => by
        rcases hst.own i hi with h | h
        · exact .inl (HPlt.out i h).2
        · exact .inr h
      have hQb : Hid (q.b = bb) := by rw [hst.b]; exact HB4.out.eb
      have H14 := hide (And.intro hq14 (And.intro hst.b (And.intro hl14 (And.intro hf14 K14.size))))
      clear hdr hq14 hst hl14 hf14 hd14 K14
      go_wp2_with fail
      refine HDr.out.mono ?_
      clear HDr
      rintro e w15 ⟨vd', rfl, hd15, hdst⟩
      have K15 : Kept w14 w15 (dbo d vd) := hdst.kept
      have hq15 := H14.out.1.far K15 (fun i hi hd => by have := HQo.out i hi; have := HDlt.out i hd; have := HSz.out; omega)
      have hl15 := H14.out.2.2.1.far K15 (fun b hb hd => by have := (lfo_new HLs.out.2 HLs.out.1 HNe.out b hb).1; have := (HDlt.out b hd).2; have := HSz.out; omega)
      have hf15 := H14.out.2.2.2.1.keep K15 (fun i hi hd => by have := HDlt.out i hd; have := HSz.out; have := G5.out.2.size; have := G2.out.size; have := hi.1; omega)
      have G15 := hide (kept_grown G14.out K15 (fun i hd => by have := (HDlt.out i hd).1; have := HSz.out; have := GW6.out.size; have := (grown_trans G2.out G4.out).size; omega))
      have HKp := hide (keptFs_any (cap := ac) HNe.out HLs.out.1 hl15 hf15 (fun f hf => (HAl.out.1.ok f hf).1) (by omega))
      have HDo : Hid (∀ i, dbo d vd' i → i < w6.heap.size ∨ w13.heap.size ≤ i) := fun i hi => by
        rcases hi with rfl | hi
        · exact .inl (HDlt.out i (.inl rfl)).2
        · rcases hdst.own i hi with h | h
          · exact .inl (HDlt.out i (.inr h)).2
          · have := H14.out.2.2.2.2; exact .inr (by omega)
      have H15 := hide (And.intro hq15 (And.intro hl15 hd15))
      clear hq15 hl15 hf15 hd15 hdst K15 H14
      go_wp2_with fail
      refine HKp.out.mono ?_
      clear HKp
      rintro e w16 ⟨rfl, hg16⟩
      have hl16 := H15.out.2.1.then hg16
      have HOv := hide (overFs_any HNe.out HLs.out.1 hl16 (fun f hf => (HAl.out.1.ok f hf).1) (by omega))
      have HG16 := hide hg16
      clear hl16 hg16
      go_wp2_with fail
      refine HOv.out.mono ?_
      clear HOv
      rintro e w17 ⟨rfl, K17⟩
      have hLo : ∀ i, Lfo (.slice (some ⟨g, 0, none⟩) (N + 12) c) L i → wc.heap.size ≤ i ∧ i < w13.heap.size := fun i hi => lfo_new HLs.out.2 HLs.out.1 HNe.out i (lfo_sub i hi)
      have hq17 := (H15.out.1.then HG16.out).far K17 (fun i hi hl => by have := HQo.out i hi; have := hLo i hl; have := HSz.out; omega)
      have hd17 := (H15.out.2.2.then HG16.out).far K17 (fun i hi hl => by have := HDo.out i hi; have := hLo i hl; have := HSz.out; omega)
      have G17 := hide (kept_grown (grown_trans G15.out HG16.out) K17 (fun i hl => by have := hLo i hl; have := GW.out.size; omega))
      have his := is_any hq17 HOk2.out.wk hd17
      rw [hQb.out] at his
      have HIs := hide his
      clear his hq17 hd17 hLo K17 H15
      go_wp2_with fail
      refine HIs.out.mono ?_
      clear HIs
      rintro e w18 ⟨rfl, hg18⟩
      have HA2 := hide (HAw.out w18 (grown_trans G17.out hg18))
      have G18 := hide (grown_trans G17.out hg18)
      clear hg18
      go_wp2_with fail
      refine HA2.out.mono ?_
      clear HA2
      rintro e w19 ⟨rfl, hg19⟩
      have G19 := hide (grown_trans G18.out hg19)
      clear hg19
      go_wp2
      go_ret
      exact ⟨rfl, G19.out⟩
end Go.Proofs.YtinkkocleognbaaGreatDoor
