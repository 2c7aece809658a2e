/- Texts joined: Ak, ArgU, Hp, Bk0. -/
import Derived.Test.YtnonghacjfgnmaaJbAm
import Derived.Test.YtnonghacjfgnmaaJbAn
import Derived.Test.YtnonghacjfgnmaaJbAh
/- awake. -/
namespace Go.Proofs.Ytnonghacjfgnmaa
open Go.RowKit Ap
attribute [local go_sem ↓] Go.wp_at_zero Go.wp_at_succ

theorem anew_fr : Dv.anew = frD 0 := rfl
theorem awk_now : bytesAt (splice (zs (3 * 64)) (1 * 64 + 62) [1, 2, 3, 4]) (1 * 64 + 61) 6 = [0, 1, 2, 3, 4, 0] := by kernel_rfl
theorem awk_cst : cst (full 64 62 4) (pcn 64 62 4) 0 = 4 := by decide
theorem awk_pcn : pcn 64 62 4 = 2 ∧ pcn 64 61 6 = 2 := by decide
set_option maxRecDepth 20000 in
set_option maxHeartbeats 8000000 in
theorem awake_any (w : World) : Calls Try.prog 19 #[] w fun e w' => e = .returned (.bool true) ∧ w.grownBy w' none := by
  go_enter Try.func19, Try.ntmps19
  go_wp2_with fail
  refine (device_any w w 2 0 (grown_refl _ _)).mono ?_
  rintro e w1 ⟨p, rfl, p1, p2, ⟨p3, p4, p5, p6, p7⟩, p8, p9⟩
  obtain ⟨b, s, k, D, W, c, t, q⟩ := p
  simp only at p3 p4 p5 p6 p7
  subst p3 p5 p6 p7
  have D1 : Hid (Dev w w1 3 64 b (frD 0) k (zs (3 * 64)) []) := p1.dev
  clear p1 p2 p4 p8 p9
  go_wp2_with fail
  refine (gnew_at D1.out 1 2 ⟨by omega, by omega, by omega⟩).mono ?_
  rintro e w2 ⟨r, rfl, r2, l2, g2⟩
  have D2 := hide (And.intro (D1.out.then g2) r2)
  clear r2 l2 g2
  go_wp2_with fail
  have g3 := World.grownBy_alloc w2 (.cells #[.int .u8 1, .int .u8 2, .int .u8 3, .int .u8 4] 5) none
  have n3 : (w2.alloc (.cells #[.int .u8 1, .int .u8 2, .int .u8 3, .int .u8 4] 5)).heap[w2.heap.size]? = some (.cells (bv [1, 2, 3, 4]).toArray 5 (0, 0)) := heap_alloc_new w2 _
  have D3 : Hid (Dev w (w2.alloc (.cells #[.int .u8 1, .int .u8 2, .int .u8 3, .int .u8 4] 5)) 3 64 b (frD 0) k (zs (3 * 64)) [] ∧ RgAt (w2.alloc (.cells #[.int .u8 1, .int .u8 2, .int .u8 3, .int .u8 4] 5)) r b 1 2 ∧ (w2.alloc (.cells #[.int .u8 1, .int .u8 2, .int .u8 3, .int .u8 4] 5)).heap[w2.heap.size]? = some (.cells (bv [1, 2, 3, 4]).toArray 5 (0, 0)) ∧ ¬ k.own w2.heap.size ∧ w2.heap.size ≠ b) := by
    refine ⟨D2.out.1.then g3, D2.out.2.grown g3, n3, fun e => ?_, fun e => ?_⟩
    · have := D2.out.1.disk.disk.lt _ (.inl e); omega
    · have := D2.out.1.dev.lt; omega
  clear g3 n3 D2
  generalize w2.alloc (.cells #[.int .u8 1, .int .u8 2, .int .u8 3, .int .u8 4] 5) = w3 at *
  generalize w2.heap.size = A at *
  have hw := gWrite_at D3.out.1 D3.out.2.1 (by omega) 62 4 (some ⟨A, 0, none⟩) [1, 2, 3, 4] (at_row D3.out.2.2.1) (by simp) (by simp) (fun a e _ => by cases e; exact D3.out.2.2.2) (by have := awk_pcn.1; show 0 + pcn 64 62 4 ≤ _; omega) (by have := awk_pcn.1; show 0 + 2 * pcn 64 62 4 < _; omega)
  refine hw.mono ?_
  clear hw
  rintro e w4 ⟨x, rfl, hx⟩
  obtain ⟨rfl, k4, W4, d4, m4, e4, l4⟩ := hx.free (by omega) (by rfl) (by simp)
  have hcs : cst (full 64 62 [1, 2, 3, 4].length) (pcn 64 62 [1, 2, 3, 4].length) 0 = 4 := awk_cst
  rw [hcs, Nat.zero_add] at d4
  have hr4 := D3.out.1.far D3.out.2.1.head (by decide) (by decide) (by decide) (by decide)
  have D4 : Hid (Dev w w4 3 64 b (frD 4) k4 (zs (3 * 64)) W4 ∧ RgAt w4 r b 1 2 ∧ now 64 (zs (3 * 64)) (abs W4) = splice (zs (3 * 64)) (1 * 64 + 62) [1, 2, 3, 4]) := ⟨d4, D3.out.2.1.kept m4.kept (fun e => e.elim hr4.1 hr4.2), e4⟩
  clear hx d4 m4 e4 l4 hcs hr4 D3
  go_wp2_with fail
  have hw := gRead_at D4.out.1 D4.out.2.1 (by omega) 61 6 (by omega) (by have := awk_pcn.2; show 4 + pcn 64 61 6 ≤ _; omega)
  rw [D4.out.2.2, awk_now, awk_pcn.2] at hw
  refine hw.mono ?_
  clear hw
  rintro e w5 ⟨v, x, rfl, hx⟩
  have hxc : x = 0 := by rw [hx.code, rgo_free]
  subst hxc
  obtain ⟨g, rfl, l5, n5, _⟩ := hx.ok rfl
  have hd5 := hx.dev
  rw [rgo_free] at hd5
  have hr5 := D4.out.1.far D4.out.2.1.head (by decide) (by decide) (by decide) (by decide)
  have D5 : Hid (Dev w w5 3 64 b (frD 6) k4 (zs (3 * 64)) W4 ∧ RgAt w5 r b 1 2 ∧ w5.heap[g]? = some (.cells (bv [0, 1, 2, 3, 4, 0]).toArray 5 (0, 0))) := ⟨hd5, D4.out.2.1.kept hx.kept (fun e => e.elim hr5.1 hr5.2), n5⟩
  clear hx hd5 hr5 n5 l5 D4
  go_wp2_with fail
  have g6 := World.grownBy_alloc w5 (.cells #[.int .u8 0, .int .u8 1, .int .u8 2, .int .u8 3, .int .u8 4, .int .u8 0] 5) none
  have n6 : (w5.alloc (.cells #[.int .u8 0, .int .u8 1, .int .u8 2, .int .u8 3, .int .u8 4, .int .u8 0] 5)).heap[w5.heap.size]? = some (.cells (bv [0, 1, 2, 3, 4, 0]).toArray 5 (0, 0)) := heap_alloc_new w5 _
  have D6 := hide (And.intro (D5.out.1.then g6) (And.intro (D5.out.2.1.grown g6) (And.intro ((g6.block _ (row_lt D5.out.2.2) (by simp)).trans D5.out.2.2) n6)))
  clear g6 n6
  generalize w5.alloc (.cells #[.int .u8 0, .int .u8 1, .int .u8 2, .int .u8 3, .int .u8 4, .int .u8 0] 5) = w6 at *
  generalize w5.heap.size = A2 at *
  refine (sameBytes_eq (some ⟨g, 0, none⟩) (some ⟨A2, 0, none⟩) 6 6 6 [0, 1, 2, 3, 4, 0] w6 rfl (at_row D6.out.2.2.1) (at_row D6.out.2.2.2) (by omega)).mono ?_
  rintro e w7 ⟨rfl, q7, rfl⟩
  have D7 := hide (And.intro (D6.out.1.drew q7) (D6.out.2.1.drew q7))
  generalize w6.drewN q7 = w7 at *
  go_wp2_with fail
  refine (gBytes_at D7.out.1 D7.out.2 (by omega)).mono ?_
  rintro e w8 ⟨rfl, q8, rfl⟩
  have D8 := hide (And.intro (D7.out.1.drew q8) (D7.out.2.drew q8))
  generalize w7.drewN q8 = w8 at *
  go_wp2_with fail
  refine (gSize_at D8.out.1 D8.out.2).mono ?_
  rintro e w' ⟨rfl, rfl⟩
  go_wp2_with fail
  refine (gCount_at D8.out.1 D8.out.2).mono ?_
  rintro e w' ⟨rfl, rfl⟩
  go_wp2_with fail
  refine (gDown_at D8.out.1 D8.out.2).mono ?_
  rintro e w' ⟨rfl, rfl⟩
  go_wp2
  go_ret
  exact ⟨rfl, D8.out.1.disk.grown⟩
end Go.Proofs.Ytnonghacjfgnmaa
/- Writes that came in, opened. -/
namespace Go.Proofs.Ytnonghacjfgnmaa
open Go.ChangeShapes Go.WideShapes Go.ChangeAt Go.RowKit Go.Deep Ap

theorem Try.cells74 : Try.prog.cellsOf 74 = 2 := by kernel_rfl
theorem Try.bytes74 : Try.prog.bytesOf 74 = 32 := by kernel_rfl
/-- A write: where, what. -/
structure Pt where
  at_ : Int
  B : List Nat
structure BIn (w : World) (bo : Option Addr) (cap : Nat) (B : List Nat) : Prop where
  at_ : At w bo B
  nil : bo = none → B.length = 0 ∧ cap = 0
  size : B.length ≤ 140737488355000
  cap : B.length ≤ cap
theorem BIn.grown {w w' : World} {bo : Option Addr} {cap : Nat} {B : List Nat} (h : BIn w bo cap B) (hg : w.grownBy w' none) : BIn w' bo cap B := ⟨h.at_.grown hg, h.nil, h.size, h.cap⟩
def ptcells (o : Pt) (bo : Option Addr) (bc : Nat) : List Value := [.int .i64 o.at_, .slice bo o.B.length bc]
structure PtAt (w : World) (b off : Nat) (o : Pt) (bo : Option Addr) (bc : Nat) : Prop where
  c0 : w.cell? ⟨b, off, none⟩ = some (.int .i64 o.at_)
  c1 : w.cell? ⟨b, off + 1, none⟩ = some (.slice bo o.B.length bc)
  sin : BIn w bo bc o.B
theorem PtAt.grown {w w' : World} {b off : Nat} {o : Pt} {bo : Option Addr} {bc : Nat} (h : PtAt w b off o bo bc) (hg : w.grownBy w' none) : PtAt w' b off o bo bc :=
  ⟨hg.cell h.c0 (by simp), hg.cell h.c1 (by simp), h.sin.grown hg⟩
def PtsAt (w : World) (ao : Option Addr) (os : List Pt) : Prop := ∀ j o, os[j]? = some o → ∃ b off bo bc, ao = some ⟨b, off, none⟩ ∧ PtAt w b (off + j * 2) o bo bc
theorem PtsAt.grown {w w' : World} {ao : Option Addr} {os : List Pt} (h : PtsAt w ao os) (hg : w.grownBy w' none) : PtsAt w' ao os := by
  intro j o hj
  obtain ⟨b, off, bo, bc, e, ho⟩ := h j o hj
  exact ⟨b, off, bo, bc, e, ho.grown hg⟩
section
variable {H : Type} {enc : TypeId × Value → H}
theorem open_bytesC {w : World} {base fuel : Nat} {spare : Nat → Bool} {held : Bool} {cs : List Value} {x : DataW H × List MemPlace} (h : DataW.trod enc Try.prog w base spare held fuel 31 cs = some x) (hw : ∀ n ∈ x.1.weights Try.prog 31, n ≤ reachBytes) :
    ∃ bo cap b, cs = [.slice bo b.length cap] ∧ BIn w bo cap b := by
  obtain ⟨bo, cap, b, e, h1, h2, h3⟩ := open_bytes h hw
  refine ⟨bo, cap, b, e, h1, h2, h3, ?_⟩
  rcases open_ints Try.underlying31 Try.underlying5 Try.cells5 h with ⟨e2, _⟩ | ⟨a, len, cap2, zs, e2, _, hl, _⟩
  · rw [e] at e2
    simp only [List.cons.injEq, and_true, Value.slice.injEq] at e2
    omega
  · rw [e] at e2
    simp only [List.cons.injEq, and_true, Value.slice.injEq] at e2
    omega
theorem open_ptc {w : World} {base fuel : Nat} {spare : Nat → Bool} {held : Bool} {cs : List Value} {x : DataW H × List MemPlace} (h : DataW.trod enc Try.prog w base spare held fuel 74 cs = some x) (hz : ∀ n ∈ x.1.weights Try.prog 74, n ≤ reachBytes) :
    ∃ (o : Pt) (bo : Option Addr) (bc : Nat), cs = ptcells o bo bc ∧ BIn w bo bc o.B := by
  obtain ⟨xs, n, _, rfl, hl, hsz, hf⟩ := DataW.trod_struct Try.underlying74 h
  rw [Try.cells74] at hl
  obtain ⟨v0, v1, rfl⟩ := list2 hl
  obtain ⟨y0, y1, rfl⟩ := list2 (show xs.length = 2 from hsz)
  have f0 : DataW.trod enc Try.prog w base spare held n 3 [v0] = some y0 := by simpa [Try.cells3] using hf 0 _ rfl
  have f1 : DataW.trod enc Try.prog w base spare held n 31 [v1] = some y1 := by simpa [Try.cells46] using hf 1 _ rfl
  obtain ⟨a0, e0, rfl, _⟩ := DataW.trod_int Try.underlying3 f0
  obtain ⟨bo, bc, B, e1, hB⟩ := open_bytesC f1 (fun n hn => hz n (by
    simp only [DataW.weights, Try.underlying74]
    simp [DataW.weightsEach, DataW.weights, hn]))
  simp only [List.cons.injEq, and_true] at e0 e1
  exact ⟨⟨a0, B⟩, bo, bc, by rw [e0, e1]; rfl, hB⟩
/-- A script that came in. -/
theorem open_pts {w : World} {base fuel : Nat} {spare : Nat → Bool} {held : Bool} {cs : List Value} {x : DataW H × List MemPlace} (h : DataW.trod enc Try.prog w base spare held fuel 68 cs = some x) (hz : ∀ n ∈ x.1.weights Try.prog 68, n ≤ reachBytes) :
    ∃ ao cap os, cs = [.slice ao os.length cap] ∧ PtsAt w ao os ∧ os.length ≤ cap ∧ os.length ≤ 140737488355328 := by
  rcases open_slice Try.underlying68 h with ⟨rfl, rfl⟩ | ⟨a, len, cap, m, n, D, Pl, rfl, hb, hl, hm, hmm, rfl, hx⟩
  · exact ⟨none, 0, [], rfl, fun j p hj => by simp at hj, by simp, by simp⟩
  · have hlm : len ≤ m := by rw [hmm]; split <;> omega
    have hw : ∀ i, i < len → ∀ n ∈ (D i).weights Try.prog 74, n ≤ reachBytes := fun i hi n hn => hz n (by
      simp only [DataW.weights, Try.underlying68]
      exact List.mem_cons_of_mem _ (List.mem_append_left _ (weights_all_mem (d := D i) (List.mem_map.2 ⟨i, by simpa using hi, rfl⟩) n hn)))
    have hsz : len * 32 ≤ reachBytes := by
      have := hz ((((List.range len).map D).length + ((List.range (m - len)).map fun j => D (len + j)).length) * Try.prog.bytesOf 74) (by simp [DataW.weights, Try.underlying68])
      rw [Try.bytes74] at this
      simp at this
      omega
    have hex : ∀ i, i < len → ∃ o : Pt, ∃ b off bo bc, some a = some (⟨b, off, none⟩ : Addr) ∧ PtAt w b (off + i * 2) o bo bc := by
      intro i hi
      rw [Try.cells74] at hx
      have key : ∀ i, i < len → ∃ (o : Pt) (bo : Option Addr) (bc : Nat) , BIn w bo bc o.B ∧ ∀ (j : Nat) (v : Value), (ptcells o bo bc)[j]? = some v → w.cell? ((a.add (i * 2)).add j) = some v := by
        intro i hi
        obtain ⟨cs', hc, ht⟩ := hx i (by omega)
        obtain ⟨_, hlen, hcell⟩ := World.cells?_some hc
        obtain ⟨o, bo, bc, rfl, hF⟩ := open_ptc ht (hw i hi)
        refine ⟨o, bo, bc, hF, fun j v hv => ?_⟩
        have hj : j < 2 := (List.getElem?_eq_some_iff.1 hv).1
        have := hcell j hj
        rw [this]
        simpa using hv
      obtain ⟨o0, b0, bc0, _, k0⟩ := key 0 (by omega)
      have ha : a = ⟨a.block, a.off, none⟩ := addr_plain (by simpa [Addr.add] using k0 0 _ rfl) (fun _ _ _ => trivial) ⟨_, _, rfl⟩
      obtain ⟨o, bo, bc, hF, k⟩ := key i hi
      rw [ha] at k
      simp only [Addr.add_lit] at k
      exact ⟨o, a.block, a.off, bo, bc, by rw [← ha], ⟨k 0 _ rfl, k 1 _ rfl, hF⟩⟩
    obtain ⟨os, hF1, hF2⟩ : ∃ os : List Pt, os.length = len ∧ PtsAt w (some a) os := by
      clear hsz hx hz h hlm hmm hl hw
      induction len with
      | zero => exact ⟨[], rfl, fun j p hj => by simp at hj⟩
      | succ k ih =>
        obtain ⟨F, f1, f2⟩ := ih (fun i hi => hex i (by omega))
        obtain ⟨p, g1⟩ := hex k (by omega)
        refine ⟨F ++ [p], by simp [f1], ?_⟩
        intro j q hj
        by_cases hjk : j < F.length
        · rw [List.getElem?_append_left hjk] at hj; exact f2 j q hj
        · have hlt := (List.getElem?_eq_some_iff.1 hj).1
          have hjk2 : j = k := by simp at hlt; omega
          subst hjk2
          rw [List.getElem?_append_right (by omega), f1, Nat.sub_self] at hj
          simp at hj
          subst hj
          exact g1
    exact ⟨some a, cap, os, by rw [hF1], hF2, by rw [hF1]; omega, by rw [hF1]; unfold reachBytes at hsz; omega⟩
end
end Go.Proofs.Ytnonghacjfgnmaa
/- The laws' small calls: CopyBytes, fits, inner, flat. -/
namespace Go.Proofs.Ytnonghacjfgnmaa
open Go.RowKit Ap
attribute [local go_sem ↓] Go.wp_at_zero Go.wp_at_succ

set_option maxHeartbeats 400000 in
theorem copyBytes_any (ao : Option Addr) (n cap : Nat) (xs : List Nat) (w : World) (hn : xs.length = n) (hat : At w ao xs) (hnil : ao = none → n = 0 ∧ cap = 0) (hb : n ≤ 140737488355328) :
    Calls Try.prog 30 #[.slice ao n cap] w fun e w' => ∃ v, e = .returned v ∧ w'.ownsRow w.heap.size 5 1 v n (bv xs) ∧ w.grownBy w' none := by
  have Hn := hide hn
  clear hn
  go_enter Try.func30, Try.ntmps30
  go_wp2_with (at_builtin; refine wpList_append_at rfl (.tmp 4) (.tmp 5) rfl w.heap.size (.slice none 0 0) 0 [] rfl (World.ownsRow_nil _ _ _ _) ao n cap xs rfl Hn.out hat hnil (by omega) (Nat.le_refl _) ?_)
  intro v' w' hown hg
  obtain ⟨ao', cap', rfl, hr⟩ := own_form hown
  clear hr
  go_wp2
  go_ret
  exact ⟨_, rfl, by simpa using hown, grown_then (grown_refl w none) hg (fun k e => by cases e)⟩
/-- Where a write is brought to. -/
def ptAt (o : Pt) (bytes : Nat) : Nat := (o.at_ % ((bytes + 1 : Nat) : Int)).toNat
def ptB (o : Pt) (bytes : Nat) : List Nat := o.B.take (bytes - ptAt o bytes)
theorem ptAt_le (o : Pt) (bytes : Nat) : ptAt o bytes ≤ bytes := by
  unfold ptAt
  have h1 := Int.emod_lt_of_pos o.at_ (show (0 : Int) < ((bytes + 1 : Nat) : Int) by omega)
  have h2 := Int.emod_nonneg o.at_ (show ((bytes + 1 : Nat) : Int) ≠ 0 by omega)
  omega
theorem ptAt_cast (o : Pt) (bytes : Nat) : (ptAt o bytes : Int) = o.at_ % ((bytes + 1 : Nat) : Int) := by
  unfold ptAt
  have h2 := Int.emod_nonneg o.at_ (show ((bytes + 1 : Nat) : Int) ≠ 0 by omega)
  omega
theorem pt_fit (o : Pt) (bytes : Nat) : ptAt o bytes + (ptB o bytes).length ≤ bytes := by
  have := ptAt_le o bytes
  simp [ptB]; omega
set_option maxRecDepth 20000 in
set_option maxHeartbeats 1000000 in
theorem fits_any (o : Pt) (bo : Option Addr) (bc bytes : Nat) (w : World) (h : BIn w bo bc o.B) (hb : bytes ≤ 60000) :
    Calls Try.prog 29 #[.agg #[.int .i64 o.at_, .slice bo o.B.length bc], .int .i64 (bytes : Int)] w fun e w' => e = .returned (.tuple #[.int .i64 (ptAt o bytes : Int), .slice bo (ptB o bytes).length bc]) ∧ w.grownBy w' none := by
  have HP : Hid (∀ w, Calls Try.prog 31 #[.int .i64 o.at_, .int .i64 ((bytes : Int) + 1)] w fun e w' => e = .returned (.int .i64 (ptAt o bytes : Int)) ∧ w' = w) := fun w => by
    have := pick_any o.at_ ((bytes : Int) + 1) (bytes + 1) w (by omega) (by omega) (by omega)
    rw [← ptAt_cast] at this
    exact this
  have hl : (ptB o bytes).length = min (bytes - ptAt o bytes) o.B.length := by simp [ptB]
  have ha := ptAt_le o bytes
  have g1 := World.grownBy_alloc w (.cells #[.int .i64 o.at_, .slice bo o.B.length bc] 74) none
  have r1 := heap_alloc_new w (.cells #[.int .i64 o.at_, .slice bo o.B.length bc] 74)
  have c0 : (w.alloc (.cells #[.int .i64 o.at_, .slice bo o.B.length bc] 74)).cell? ⟨w.heap.size, 0, none⟩ = some (.int .i64 o.at_) := cell_row (l := [_, _]) r1 0
  have c1 : (w.alloc (.cells #[.int .i64 o.at_, .slice bo o.B.length bc] 74)).cell? ⟨w.heap.size, 1, none⟩ = some (.slice bo o.B.length bc) := cell_row (l := [_, _]) r1 1
  have hcap := h.cap
  have hsz := h.size
  have G1 := hide g1
  clear h g1 r1
  rw [hl]
  clear hl
  generalize o.B.length = n at *
  generalize ptAt o bytes = k at *
  by_cases hn : (bytes : Int) - (k : Int) < (n : Int)
  · have hsl := slice_to bo n bc (bytes - k) (by omega)
    rw [show ((bytes - k : Nat) : Int) = (bytes : Int) - (k : Int) by omega] at hsl
    rw [Nat.min_eq_left (by omega)]
    go_enter Try.func29, Try.ntmps29
    go_wp2_with fail
    refine (HP.out _).mono ?_
    rintro e w' ⟨rfl, rfl⟩
    go_wp2
    go_ret2
    exact ⟨rfl, G1.out⟩
  · rw [Nat.min_eq_right (by omega)]
    go_enter Try.func29, Try.ntmps29
    go_wp2_with fail
    refine (HP.out _).mono ?_
    rintro e w' ⟨rfl, rfl⟩
    go_wp2
    go_ret2
    exact ⟨rfl, G1.out⟩
theorem BIn.ptB {w : World} {bo : Option Addr} {bc : Nat} {o : Pt} (h : BIn w bo bc o.B) (bytes : Nat) : BIn w bo bc (Ytnonghacjfgnmaa.ptB o bytes) := by
  have hl : (Ytnonghacjfgnmaa.ptB o bytes).length ≤ o.B.length := by simp [Ytnonghacjfgnmaa.ptB]; omega
  exact ⟨h.at_.take _, fun e => ⟨by have := (h.nil e).1; omega, (h.nil e).2⟩, by have := h.size; omega, by have := h.cap; omega⟩
/-- The inner region's place. -/
def inF (x : Int) : Nat := (x % 6).toNat
def inC (x y : Int) : Nat := (1 + y % (6 - x % 6)).toNat
theorem in_ok (x y : Int) : inF x ≤ 5 ∧ 1 ≤ inC x y ∧ inF x + inC x y ≤ 6 := by
  have h1 : 0 ≤ x % 6 := by omega
  have h2 : x % 6 < 6 := by omega
  have h3 := Int.emod_lt_of_pos y (show (0 : Int) < 6 - x % 6 by omega)
  have h4 := Int.emod_nonneg y (show (6 - x % 6 : Int) ≠ 0 by omega)
  unfold inF inC
  omega
theorem results_tmp4 {fn : Func} {t u v x : Tmp} (h : fn.results = #[.tmp t, .tmp u, .tmp v, .tmp x]) (tmps : Array Value) (P : Program) (w : World) :
    (results fn tmps).run P w = .ok (.tuple #[tmps.getD t undef, tmps.getD u undef, tmps.getD v undef, tmps.getD x undef]) w := by
  simp [results, h]
set_option maxRecDepth 20000 in
set_option maxHeartbeats 4000000 in
theorem inner_any (w0 w : World) (x y : Int) (hg : w0.grownBy w none) :
    Calls Try.prog 28 #[.int .i64 x, .int .i64 y] w fun e w' => ∃ (b r : Nat) (k : Dk), e = .returned (.tuple #[.pointer (some ⟨b, 0, none⟩), .pointer (some ⟨r, 0, none⟩), .int .i64 ((64 * inF x : Nat) : Int), .bool true]) ∧ (Dev w0 w' 6 64 b (frD 0) k (zs (6 * 64)) [] ∧ RgAt w' r b (inF x) (inC x y) ∧ w0.grownBy w' none) := by
  obtain ⟨i1, i2, i3⟩ := in_ok x y
  have q1 : 0 ≤ x % 6 := by omega
  have q2 : x % 6 < 6 := by omega
  have eF : x % 6 = (inF x : Int) := by unfold inF; omega
  have HP : Hid (∀ w, Calls Try.prog 31 #[.int .i64 x, .int .i64 6] w fun e w' => e = .returned (.int .i64 (inF x : Int)) ∧ w' = w) := fun w => by
    have := pick_any x 6 6 w rfl (by omega) (by omega)
    rw [← eF]
    exact this
  have HQ : Hid (∀ w, Calls Try.prog 31 #[.int .i64 y, .int .i64 (6 - (inF x : Int))] w fun e w' => e = .returned (.int .i64 ((inC x y : Int) - 1)) ∧ w' = w) := fun w => by
    have h4 := Int.emod_nonneg y (show (6 - x % 6 : Int) ≠ 0 by omega)
    have e2 : y % ((6 - inF x : Nat) : Int) = (inC x y : Int) - 1 := by
      rw [show ((6 - inF x : Nat) : Int) = 6 - x % 6 by omega]
      unfold inC
      omega
    have := pick_any y (6 - (inF x : Int)) (6 - inF x) w (by omega) (by omega) (by omega)
    rw [e2] at this
    exact this
  generalize inF x = F at *
  generalize inC x y = C at *
  have G0 := hide hg
  clear hg eF
  go_enter Try.func28, Try.ntmps28
  go_wp2_with fail
  refine (device_any w0 w 5 0 G0.out).mono ?_
  rintro e w1 ⟨p, rfl, p1, p2, ⟨p3, p4, p5, p6, p7⟩, p8, p9⟩
  obtain ⟨b, s, k, D, W, c, t, q⟩ := p
  simp only at p3 p4 p5 p6 p7
  subst p3 p5 p6 p7
  have D1 : Hid (Dev w0 w1 6 64 b (frD 0) k (zs (6 * 64)) []) := p1.dev
  clear p1 p2 p4 p8 p9
  go_wp2_with fail
  refine (HP.out _).mono ?_
  rintro e w' ⟨rfl, rfl⟩
  go_wp2_with fail
  refine (HQ.out _).mono ?_
  rintro e w' ⟨rfl, rfl⟩
  go_wp2_with fail
  rw [show (1 + ((C : Int) - 1)) = (C : Int) by omega]
  refine (gnew_at D1.out F C ⟨by omega, by omega, by omega⟩).mono ?_
  rintro e w2 ⟨r, rfl, r2, l2, g2⟩
  have D2 := hide (And.intro (D1.out.then g2) r2)
  clear r2 l2 g2
  go_wp2
  refine bodyPost_ret (results_tmp4 rfl _ _ _) rfl ?_
  exact ⟨b, r, k, by simp, D2.out.1, D2.out.2, D2.out.1.disk.grown⟩
/-- Rows one behind the other. -/
theorem secs_flat {n size : Nat} {D : List Nat} (_hD : D.length = n * size) (i : Nat) (hi : i ≤ n) : ((secs n size D).take i).flatten = D.take (i * size) := by
  induction i with
  | zero => simp
  | succ i ih =>
    have h1 := secs_get n size D i (by omega)
    have hle : (i + 1) * size ≤ n * size := Nat.mul_le_mul_right _ (by omega)
    rw [Nat.succ_mul] at hle
    rw [take_snoc _ _ _ h1, List.flatten_append, ih (by omega), Nat.succ_mul]
    simp only [List.flatten_cons, List.flatten_nil, List.append_nil]
    rw [secOf, ← List.take_add]
set_option maxRecDepth 20000 in
set_option maxHeartbeats 4000000 in
theorem flat_any (w0 w : World) (g n size lo : Nat) (D : List Nat) (hs : List Nat) (hI : ImgAt w lo g size (secs n size D) hs) (hg : w0.grownBy w none) (hD : D.length = n * size) (hn : n ≤ 65536) (hsz : size ≤ 4096) :
    Calls Try.prog 33 #[.slice (some ⟨g, 0, none⟩) n n] w fun e w' => ∃ ao cap, e = .returned (.slice ao (n * size) cap) ∧ (At w' ao D ∧ w.grownBy w' none ∧ ∀ a, ao = some a → a = ⟨a.block, 0, none⟩) := by
  have HI := hide (And.intro hI (And.intro hg hD))
  have hm : n * size ≤ 65536 * 4096 := Nat.mul_le_mul hn hsz
  clear hI hg hD
  go_enter Try.func33, Try.ntmps33
  go_wp2
  go_loopg [3, 4] n (fun q v i wr => ∃ j : Nat, q + j = n ∧ i = .int .i64 j ∧ Hid (wr.ownsRow w.heap.size 5 1 v (j * size) (bv (D.take (j * size))) ∧ w.grownBy wr none))
  case atStart => exact ⟨0, by omega, rfl, hide ⟨by rw [Nat.zero_mul, List.take_zero]; exact World.ownsRow_nil _ _ _ _, grown_refl _ _⟩⟩
  case round =>
    obtain ⟨j, hkj, rfl, HR⟩ := hrel
    by_cases hk : 0 < gk
    · have hj : j < n := by omega
      have hx := secs_get n size D j hj
      obtain ⟨h, hh⟩ : ∃ h, hs[j]? = some h := ⟨_, List.getElem?_eq_getElem (by rw [HI.out.1.len, secs_length]; exact hj)⟩
      obtain ⟨r1, r2, r3⟩ := HI.out.1.rows j h _ hh hx
      have hrow := (HR.out.2.block _ (row_lt HI.out.1.row) (by simp)).trans HI.out.1.row
      have cj : wr.cell? ⟨g, j, none⟩ = some (.slice (some ⟨h, 0, none⟩) size size) := by
        rw [cell_row hrow]
        simp [slv, hh, bsl]
      have hle : (j + 1) * size ≤ n * size := Nat.mul_le_mul_right _ (by omega)
      have HA : Hid (At wr (some ⟨h, 0, none⟩) (secOf size D j)) := at_row ((HR.out.2.block _ (row_lt r1) (by simp)).trans r1)
      have h1 : (0 : Int) ≤ (j : Int) := by omega
      have h2 : (j : Int) < (n : Int) := by omega
      have hl := hide r2
      rw [Nat.succ_mul] at hle
      clear r1 r2 r3 hrow hh hx
      go_wp2_with (at_builtin; refine wpList_append_at rfl (.tmp 11) (.tmp 15) rfl w.heap.size _ (j * size) (D.take (j * size)) rfl HR.out.1 (some ⟨h, 0, none⟩) size size (secOf size D j) rfl hl.out HA.out (fun e => by cases e) (by omega) HR.out.2.size ?_)
      intro v' w' hown hg
      have H2 : Hid (w'.ownsRow w.heap.size 5 1 v' ((j + 1) * size) (bv (D.take ((j + 1) * size))) ∧ w.grownBy w' none) := by
        refine ⟨?_, grown_then HR.out.2 hg (fun b e => Or.inl (own_block HR.out.1 b e).1)⟩
        rw [Nat.succ_mul, List.take_add]
        exact hown
      clear hown hg
      go_wp2
      go_roundg (gk - 1)
      case measure => omega
      case rel => exact ⟨j + 1, by omega, by go_num, H2⟩
    · have hj : j = n := by omega
      subst hj
      obtain ⟨ao, cap, rfl, h1, h2, h3, h4, h5, h6⟩ := own_at HR.out.1
      have H4 := hide h4
      have H6 := hide (fun a (e : ao = some a) => (h6 a e).1)
      rw [List.take_of_length_le (by rw [HI.out.2.2]; exact Nat.le_refl _)] at H4
      clear h1 h2 h3 h4 h5 h6
      go_wp2
      go_ret
      exact ⟨ao, cap, rfl, H4.out, HR.out.2, H6.out⟩
set_option maxRecDepth 20000 in
set_option maxHeartbeats 1000000 in
/-- A read that may not be. -/
theorem gRead_bad {w0 w : World} {n size b r F C : Nat} {s : Dv} {k : Dk} {D : List Nat} {W : List Wt} (h : Dev w0 w n size b s k D W) (hr : RgAt w r b F C) (hC : C ≤ 65536) (at_ m : Int) (hat : at_ ≤ 9223372036854775807) (hbad : mcode (C * size) at_ m = 2) :
    Calls Try.prog 8 #[.pointer (some ⟨r, 0, none⟩), .int .i64 at_, .int .i64 m] w fun e w' => e = .returned (.tuple #[.slice none 0 0, .int .i64 2]) ∧ w.grownBy w' none := by
  have HM : Hid (∀ w1 : World, w.grownBy w1 none → Calls Try.prog 39 #[.pointer (some ⟨r, 0, none⟩), .int .i64 at_, .int .i64 m] w1 fun e w' => e = .returned (.int .i64 2) ∧ w1.grownBy w' none) := by
    intro w1 hg
    have := gmay_at (h.then hg) (hr.grown hg) hC at_ m hat
    rw [hbad] at this
    exact this.mono (by rintro e w' ⟨rfl, q, rfl⟩; exact ⟨rfl, grown_drewN _ _ _⟩)
  have G1 := hide (World.grownBy_alloc w (.cells #[.pointer (some ⟨r, 0, none⟩)] 22) none)
  have N1 : Hid ((w.alloc (.cells #[.pointer (some ⟨r, 0, none⟩)] 22)).heap[w.heap.size]? = some (.cells #[.pointer (some ⟨r, 0, none⟩)] 22 (0, 0))) := heap_alloc_new w _
  have c0 : (w.alloc (.cells #[.pointer (some ⟨r, 0, none⟩)] 22)).cell? ⟨w.heap.size, 0, none⟩ = some (.pointer (some ⟨r, 0, none⟩)) := cell_row (l := [_]) N1.out 0
  clear h hr hbad
  go_enter Try.func8, Try.ntmps8
  go_wp2_with fail
  refine (HM.out _ G1.out).mono ?_
  rintro e w2 ⟨rfl, g2⟩
  have G2 := hide (grown_trans G1.out g2)
  clear g2
  go_wp2
  go_ret2
  exact ⟨rfl, G2.out⟩
end Go.Proofs.Ytnonghacjfgnmaa
/- A region beside a plain row of bytes. -/
namespace Go.Proofs.Ytnonghacjfgnmaa
open Go.RowKit Ap
attribute [local go_sem ↓] Go.wp_at_zero Go.wp_at_succ

/-- Where a cut of a row begins. -/
def cutO (lo cap : Nat) : Nat := if cap = lo then 0 else lo
theorem slice_lhC (g len cap lo hi : Nat) (h : lo ≤ hi) (h2 : hi ≤ cap) (w : World) : (Instr.slice 31 (.slice (some ⟨g, 0, none⟩) len cap) (some (.int .i64 (lo : Int))) (some (.int .i64 (hi : Int))) none).run Try.prog w = .ok (.slice (some ⟨g, cutO lo cap, none⟩) (hi - lo) (cap - lo)) w := by
  unfold cutO
  simp [Instr.slice, run_underlying Try.underlying31, Instr.sliceBounds, Instr.sliceBound, asIntOf, Addr.add, h, h2]
  by_cases e : cap = lo
  · simp [e]
  · simp [e]; omega
theorem slice_fromC (g len cap lo : Nat) (h : lo ≤ len) (_h2 : len ≤ cap) (w : World) : (Instr.slice 31 (.slice (some ⟨g, 0, none⟩) len cap) (some (.int .i64 (lo : Int))) none none).run Try.prog w = .ok (.slice (some ⟨g, cutO lo cap, none⟩) (len - lo) (cap - lo)) w := by
  unfold cutO
  simp [Instr.slice, run_underlying Try.underlying31, Instr.sliceBounds, Instr.sliceBound, asIntOf, Addr.add, h]
  by_cases e : cap = lo
  · simp [e]
  · simp [e]; omega
theorem splice_in (A Q xs : List Nat) (o at_ : Nat) (h1 : at_ + xs.length ≤ Q.length) (h2 : o + Q.length ≤ A.length) : splice (splice A o Q) (o + at_) xs = splice A o (splice Q at_ xs) := by
  have hl : (splice Q at_ xs).length = Q.length := length_splice _ _ _ h1
  apply List.ext_getElem?
  intro i
  rw [splice_get _ _ _ _ (by rw [length_splice _ _ _ h2]; omega), splice_get _ _ _ _ h2, splice_get _ _ _ _ (by omega), hl]
  by_cases hx : o + at_ ≤ i ∧ i < o + at_ + xs.length
  · rw [if_pos hx, if_pos (by omega), splice_get _ _ _ _ h1, if_pos (by omega)]
    congr 1; omega
  · rw [if_neg hx]
    by_cases hy : o ≤ i ∧ i < o + Q.length
    · rw [if_pos hy, if_pos hy, splice_get _ _ _ _ h1, if_neg (by omega)]
    · rw [if_neg hy, if_neg hy]
theorem splice_cut (pl xs : List Nat) (k : Nat) (h : k + xs.length ≤ pl.length) : splice pl (cutO k pl.length) xs = splice pl k xs := by
  unfold cutO
  split
  · have : xs = [] := List.eq_nil_of_length_eq_zero (by omega)
    subst this
    rw [splice_nil, splice_nil]
  · rfl
theorem zs_splice (N o m : Nat) (h : o + m ≤ N) : splice (zs N) o (zs m) = zs N := by
  apply List.ext_getElem?
  intro i
  rw [splice_get _ _ _ _ (by simp [zs]; omega)]
  simp only [zs, List.length_replicate, List.getElem?_replicate]
  split
  · rw [if_pos (by omega), if_pos (by omega)]
  · rfl
theorem DvM.foot {w w' : World} {b : Nat} {k k' : Dk} {W W' : List Wt} (h : DvM w w' b k k' W W') {i : Nat} (hi : Ytnonghacjfgnmaa.foot k' W' i) : Ytnonghacjfgnmaa.foot k W i ∨ w.heap.size ≤ i := by
  rcases hi with e | ⟨x, hx, rfl⟩
  · exact (h.own i e).imp .inl id
  · rcases h.blk x hx with ⟨y, hy, e⟩ | e
    · exact .inl (.inr ⟨y, hy, e⟩)
    · exact .inr e
/-- A region of a device of six small sectors; Q is what it shows, pl lies at P. -/
structure BkS (w0 w : World) (b r F C P : Nat) (k : Dk) (W : List Wt) (c : Nat) (pl Q : List Nat) : Prop where
  dev : Dev w0 w 6 64 b (frD c) k (zs (6 * 64)) W
  rg : RgAt w r b F C
  hP : w.heap[P]? = some (.cells (bv pl).toArray 5 (0, 0))
  len : pl.length = C * 64
  off : ¬ foot k W P
  low : w0.heap.size ≤ P
  qlen : Q.length = C * 64
  sh : now 64 (zs (6 * 64)) (abs W) = splice (zs (6 * 64)) (F * 64) Q
  fit : F + C ≤ 6
section
variable {w0 w w' : World} {b r F C P c : Nat} {k : Dk} {W : List Wt} {pl Q : List Nat}
theorem BkS.then (h : BkS w0 w b r F C P k W c pl Q) (hg : w.grownBy w' none) : BkS w0 w' b r F C P k W c pl Q :=
  ⟨h.dev.then hg, h.rg.grown hg, (hg.block _ (row_lt h.hP) (by simp)).trans h.hP, h.len, h.off, h.low, h.qlen, h.sh, h.fit⟩
theorem BkS.pb (h : BkS w0 w b r F C P k W c pl Q) : P ≠ b := by
  rintro rfl
  have := h.dev.dev.head
  rw [h.hP] at this
  simp at this
/-- The plain row is written. -/
theorem BkS.put {pl' : List Nat} (h : BkS w0 w b r F C P k W c pl Q) (hg : w.grownBy w' (some P)) (hp : w'.heap[P]? = some (.cells (bv pl').toArray 5 (0, 0))) (hl : pl'.length = C * 64) : BkS w0 w' b r F C P k W c pl' Q := by
  have nr : some r ≠ some P := fun e => by have e := Option.some.inj e; have := h.rg.head; rw [e, h.hP] at this; simp at this
  exact ⟨h.dev.row hg h.off h.pb h.low, ⟨(hg.block _ h.rg.lt nr).trans h.rg.head⟩, hp, hl, h.off, h.low, h.qlen, h.sh, h.fit⟩
theorem BkS.nowlen (h : BkS w0 w b r F C P k W c pl Q) : (now 64 (zs (6 * 64)) (abs W)).length = 6 * 64 := now_len h.dev.disk.disk.len h.dev.disk.disk.fitsW
/-- A write. -/
theorem BkS.write (h : BkS w0 w b r F C P k W c pl Q) (at_ cap : Nat) (ao : Option Addr) (xs : List Nat) (hat : At w ao xs) (hcap : xs.length ≤ cap) (hfit : at_ + xs.length ≤ C * 64) (hoff : ∀ a, ao = some a → 0 < xs.length → ¬ k.own a.block ∧ a.block ≠ b) (hW : W.length ≤ 800000) (hc : c ≤ 90000) :
    Calls Try.prog 9 #[.pointer (some ⟨r, 0, none⟩), .int .i64 (at_ : Int), .slice ao xs.length cap] w fun e w' => e = .returned (.int .i64 0) ∧ ∃ k' W' c', BkS w0 w' b r F C P k' W' c' pl (splice Q at_ xs) ∧ c ≤ c' ∧ c' ≤ c + xs.length / 64 + 4 ∧ W'.length ≤ W.length + xs.length / 64 + 2 ∧ DvM w w' b k k' W W' := by
  have hfC := h.fit
  have hm := pcn_le (size := 64) (at_ := at_) (n := xs.length) (by omega)
  have hcs := cst_few (size := 64) (at_ := at_) (n := xs.length) (by omega)
  have hl64 : xs.length ≤ 384 := by omega
  refine (gWrite_at h.dev h.rg hfC at_ cap ao xs hat hcap (by omega) hoff (by omega) (by show c + _ < _; omega)).mono ?_
  rintro e w' ⟨x, rfl, hx⟩
  obtain ⟨rfl, k', W', d', m', e', l'⟩ := hx.free (by omega) h.nowlen (by omega)
  have hr := h.dev.far h.rg.head (by decide) (by decide) (by decide) (by decide)
  refine ⟨rfl, k', W', _, ⟨d', h.rg.kept m'.kept (fun e => e.elim hr.1 hr.2), m'.other h.hP (fun e => h.off (.inl e)) h.pb, h.len, ?_, h.low, ?_, ?_, hfC⟩, by omega, by omega, by omega, m'⟩
  · intro hf
    rcases m'.foot hf with e | e
    · exact h.off e
    · have := row_lt h.hP; omega
  · rw [length_splice _ _ _ (by rw [h.qlen]; exact hfit), h.qlen]
  · rw [e', h.sh, splice_in _ _ _ _ _ (by rw [h.qlen]; exact hfit) (by rw [h.qlen, zs_length]; omega)]
/-- A read. -/
theorem BkS.read (h : BkS w0 w b r F C P k W c pl Q) (a m : Nat) (hfit : a + m ≤ C * 64) (hc : c ≤ 90000) :
    Calls Try.prog 8 #[.pointer (some ⟨r, 0, none⟩), .int .i64 (a : Int), .int .i64 (m : Int)] w fun e w' => ∃ g, e = .returned (.tuple #[.slice (some ⟨g, 0, none⟩) m m, .int .i64 0]) ∧ (BkS w0 w' b r F C P k W (c + pcn 64 a m) pl Q ∧ w'.heap[g]? = some (.cells (bv ((Q.drop a).take m)).toArray 5 (0, 0)) ∧ w.heap.size ≤ g ∧ ((Q.drop a).take m).length = m ∧ pcn 64 a m ≤ m / 64 + 2 ∧ Kept w w' (fun i => k.own i ∨ i = b)) := by
  have hfC := h.fit
  have hm := pcn_le (size := 64) (at_ := a) (n := m) (by omega)
  have hw := gRead_at h.dev h.rg hfC a m (by omega) (by show c + _ ≤ _; omega)
  rw [h.sh] at hw
  have e1 : bytesAt (splice (zs (6 * 64)) (F * 64) Q) (F * 64 + a) m = (Q.drop a).take m := by
    apply List.ext_getElem?
    intro i
    rw [bytesAt_get, splice_get _ _ _ _ (by rw [h.qlen, zs_length]; omega), List.getElem?_take, List.getElem?_drop, h.qlen]
    by_cases hi : i < m
    · rw [if_pos hi, if_pos hi, if_pos (by omega)]; congr 1; omega
    · rw [if_neg hi, if_neg hi]
  rw [e1] at hw
  refine hw.mono ?_
  rintro e w' ⟨v, x, rfl, hx⟩
  have hx0 : x = 0 := by rw [hx.code, rgo_free]
  subst hx0
  obtain ⟨g, rfl, l5, n5, l6⟩ := hx.ok rfl
  have hd5 := hx.dev
  rw [rgo_free] at hd5
  have hr := h.dev.far h.rg.head (by decide) (by decide) (by decide) (by decide)
  exact ⟨g, rfl, ⟨hd5, h.rg.kept hx.kept (fun e => e.elim hr.1 hr.2), hx.kept.at h.hP (fun e => e.elim (fun e => h.off (.inl e)) h.pb), h.len, h.off, h.low, h.qlen, h.sh, hfC⟩, n5, l5, l6, hm, hx.kept⟩
/-- A sync. -/
theorem BkS.sync (h : BkS w0 w b r F C P k W c pl Q) (hc : c ≤ 90000) :
    Calls Try.prog 10 #[.pointer (some ⟨r, 0, none⟩)] w fun e w' => e = .returned (.int .i64 0) ∧ ∃ k', (Dev w0 w' 6 64 b (frD (c + 1)) k' (splice (zs (6 * 64)) (F * 64) Q) [] ∧ w'.heap[P]? = some (.cells (bv pl).toArray 5 (0, 0)) ∧ RgAt w' r b F C ∧ DvM w w' b k k' W []) := by
  refine (gSync_at h.dev h.rg (by show c < _; omega)).mono ?_
  rintro e w' ⟨rfl, k', D', W', d', m', e', l'⟩
  rw [frD_goes, if_pos rfl] at e'
  obtain ⟨e1, e2⟩ := Prod.mk.inj e'
  have hW : W' = [] := by simpa [abs] using e2
  subst hW
  have e3 : D' = splice (zs (6 * 64)) (F * 64) Q := by rw [← h.sh]; exact e1
  subst e3
  have hr := h.dev.far h.rg.head (by decide) (by decide) (by decide) (by decide)
  exact ⟨rfl, k', d', m'.other h.hP (fun e => h.off (.inl e)) h.pb, h.rg.kept m'.kept (fun e => e.elim hr.1 hr.2), m'⟩
theorem at_cut {w : World} {P a m : Nat} {pl : List Nat} (h : w.heap[P]? = some (.cells (bv pl).toArray 5 (0, 0))) (_hf : a + m ≤ pl.length) : At w (some ⟨P, cutO a pl.length, none⟩) ((pl.drop a).take m) := by
  unfold cutO
  split
  · have : (pl.drop a).take m = [] := List.eq_nil_of_length_eq_zero (by simp; omega)
    rw [this]
    exact At.nil _ _
  · exact (at_drop h a).take m
end
end Go.Proofs.Ytnonghacjfgnmaa
