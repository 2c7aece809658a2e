/- Operations, scripts and fates that came in, opened. -/
import Derived.Test.YtgcfjphjekkkmaaArgT
import Derived.Test.YtgcfjphjekkkmaaCrash
namespace Go.Proofs.Ytgcfjphjekkkmaa
open Go.ChangeShapes Go.WideShapes Go.ChangeAt Go.RowKit Go.Deep Ap

theorem Try.cells35 : Try.prog.cellsOf 35 = 1 := by kernel_rfl
theorem Try.cells37 : Try.prog.cellsOf 37 = 6 := by kernel_rfl
theorem Try.bytes69 : Try.prog.bytesOf 69 = 16 := by kernel_rfl
theorem Try.bytes37 : Try.prog.bytesOf 37 = 64 := by kernel_rfl
theorem list6 {α : Type} {l : List α} (h : l.length = 6) : ∃ a b c d e f, l = [a, b, c, d, e, f] := by
  match l, h with
  | [a, b, c, d, e, f], _ => exact ⟨a, b, c, d, e, f, rfl⟩
/-- A script's step: five numbers and its fates. -/
structure OpD where
  d0 : Int
  d1 : Int
  d2 : Int
  d3 : Int
  d4 : Int
  F : List (Int × Int)
/-- Fates that came in. -/
structure FIn (w : World) (fo : Option Addr) (cap : Nat) (F : List (Int × Int)) : Prop where
  at_ : FatesAt w fo F
  nil : fo = none → F.length = 0 ∧ cap = 0
  size : F.length * 16 ≤ 140737488355000
  lt : ∀ a, fo = some a → 0 < F.length → a.block < w.heap.size
structure OpAt (w : World) (b off : Nat) (o : OpD) (fo : Option Addr) (cap : Nat) : Prop where
  c0 : w.cell? ⟨b, off, none⟩ = some (.int .i64 o.d0)
  c1 : w.cell? ⟨b, off + 1, none⟩ = some (.int .i64 o.d1)
  c2 : w.cell? ⟨b, off + 2, none⟩ = some (.int .i64 o.d2)
  c3 : w.cell? ⟨b, off + 3, none⟩ = some (.int .i64 o.d3)
  c4 : w.cell? ⟨b, off + 4, none⟩ = some (.int .i64 o.d4)
  c5 : w.cell? ⟨b, off + 5, none⟩ = some (.slice fo o.F.length cap)
  fin : FIn w fo cap o.F
def OpsAt (w : World) (ao : Option Addr) (os : List OpD) : Prop := ∀ j o, os[j]? = some o → ∃ b off fo cap, ao = some ⟨b, off, none⟩ ∧ OpAt w b (off + j * 6) o fo cap
theorem cell_lt {w : World} {a : Addr} {v : Value} (h : w.cell? a = some v) : a.block < w.heap.size := by
  unfold World.cell? at h
  split at h
  · rename_i hb; exact (Array.getElem?_eq_some_iff.1 hb).1
  · cases h
theorem fates_lt {w : World} {fo : Option Addr} {F : List (Int × Int)} (h : FatesAt w fo F) : ∀ a, fo = some a → 0 < F.length → a.block < w.heap.size := by
  intro a e hl
  obtain ⟨b, o, e', c1, _⟩ := h 0 F[0] (List.getElem?_eq_getElem hl)
  rw [e] at e'
  cases e'
  exact cell_lt c1
section
variable {H : Type} {enc : TypeId × Value → H}
theorem addr_plain {w : World} {a : Addr} {v : Value} (h : w.cell? a = some v) (hv : ∀ (k : IntKind) (n : Int), v = .int k n → True) (hi : ∃ k n, v = .int k n) : a = ⟨a.block, a.off, none⟩ := by
  obtain ⟨k, n, rfl⟩ := hi
  have h2 : a.spot = none := by
    unfold World.cell? at h
    split at h
    · split at h
      · cases h
      · rename_i hs; simpa using hs
    · cases h
  cases a; simp_all
theorem open_fates {w : World} {base fuel : Nat} {spare : Nat → Bool} {held : Bool} {cs : List Value} {x : DataW H × List MemPlace} (h : DataW.trod enc Try.prog w base spare held fuel 35 cs = some x) (hz : ∀ n ∈ x.1.weights Try.prog 35, n ≤ reachBytes) :
    ∃ fo cap F, cs = [.slice fo F.length cap] ∧ FIn w fo cap F := by
  rcases open_slice Try.underlying35 h with ⟨rfl, rfl⟩ | ⟨a, len, cap, m, n, D, Pl, rfl, hb, hl, hm, hmm, rfl, hx⟩
  · exact ⟨none, 0, [], rfl, ⟨fun j p hj => by simp at hj, fun _ => ⟨rfl, rfl⟩, by simp, fun a e => by cases e⟩⟩
  · have hlm : len ≤ m := by rw [hmm]; split <;> omega
    have hsz : len * 16 ≤ reachBytes := by
      have := hz ((((List.range len).map D).length + ((List.range (m - len)).map fun j => D (len + j)).length) * Try.prog.bytesOf 69) (by simp [DataW.weights, Try.underlying35])
      rw [Try.bytes69] at this
      simp at this
      omega
    have hex : ∀ i, i < len → ∃ p : Int × Int, ∃ b o, some a = some (⟨b, o, none⟩ : Addr) ∧ w.cell? ⟨b, o + i * 2, none⟩ = some (.int .i64 p.1) ∧ w.cell? ⟨b, o + i * 2 + 1, none⟩ = some (.int .i64 p.2) := by
      intro i hi
      rw [Try.cells69] at hx
      have key : ∀ i, i < len → ∃ K A : Int, w.cell? (a.add (i * 2)) = some (.int .i64 K) ∧ w.cell? ((a.add (i * 2)).add 1) = some (.int .i64 A) := by
        intro i hi
        obtain ⟨cs', hc, ht⟩ := hx i (by omega)
        obtain ⟨_, hlen, hcell⟩ := World.cells?_some hc
        obtain ⟨K, A, rfl⟩ := open_fate ht
        refine ⟨K, A, ?_, ?_⟩
        · have := hcell 0 (by omega); simpa [Addr.add] using this
        · have := hcell 1 (by omega); simpa using this
      obtain ⟨K0, A0, k0, _⟩ := key 0 (by omega)
      have ha : a = ⟨a.block, a.off, none⟩ := addr_plain (by simpa [Addr.add] using k0) (fun _ _ _ => trivial) ⟨_, _, rfl⟩
      obtain ⟨K, A, k1, k2⟩ := key i hi
      refine ⟨(K, A), a.block, a.off, by rw [← ha], ?_, ?_⟩
      · rw [ha, Addr.add_lit] at k1; exact k1
      · rw [ha, Addr.add_lit, Addr.add_lit] at k2; exact k2
    obtain ⟨F, hF1, hF2⟩ : ∃ F : List (Int × Int), F.length = len ∧ FatesAt w (some a) F := by
      clear hsz hx hz h hlm hmm hl
      induction len with
      | zero => exact ⟨[], rfl, fun j p hj => by simp at hj⟩
      | succ k ih =>
        obtain ⟨F, f1, f2⟩ := ih (fun i hi => hex i (by omega))
        obtain ⟨p, g1⟩ := hex k (by omega)
        refine ⟨F ++ [p], by simp [f1], ?_⟩
        intro j q hj
        by_cases hjk : j < F.length
        · rw [List.getElem?_append_left hjk] at hj; exact f2 j q hj
        · have hlt := (List.getElem?_eq_some_iff.1 hj).1
          have hjk2 : j = k := by simp at hlt; omega
          subst hjk2
          rw [List.getElem?_append_right (by omega), f1, Nat.sub_self] at hj
          simp at hj
          subst hj
          exact g1
    exact ⟨some a, cap, F, by rw [hF1], hF2, (fun e => by cases e), by rw [hF1]; unfold reachBytes at hsz; omega, fates_lt hF2⟩
/-- One step's cells. -/
theorem open_opc {w : World} {base fuel : Nat} {spare : Nat → Bool} {held : Bool} {cs : List Value} {x : DataW H × List MemPlace} (h : DataW.trod enc Try.prog w base spare held fuel 37 cs = some x) (hz : ∀ n ∈ x.1.weights Try.prog 37, n ≤ reachBytes) :
    ∃ (o : OpD) (fo : Option Addr) (cap : Nat), cs = [.int .i64 o.d0, .int .i64 o.d1, .int .i64 o.d2, .int .i64 o.d3, .int .i64 o.d4, .slice fo o.F.length cap] ∧ FIn w fo cap o.F := by
  obtain ⟨xs, n, _, rfl, hl, hsz, hf⟩ := DataW.trod_struct Try.underlying37 h
  rw [Try.cells37] at hl
  obtain ⟨v0, v1, v2, v3, v4, v5, rfl⟩ := list6 hl
  obtain ⟨y0, y1, y2, y3, y4, y5, rfl⟩ := list6 (show xs.length = 6 from hsz)
  have f0 : DataW.trod enc Try.prog w base spare held n 3 [v0] = some y0 := by simpa [Try.cells3] using hf 0 _ rfl
  have f1 : DataW.trod enc Try.prog w base spare held n 3 [v1] = some y1 := by simpa [Try.cells3] using hf 1 _ rfl
  have f2 : DataW.trod enc Try.prog w base spare held n 3 [v2] = some y2 := by simpa [Try.cells3] using hf 2 _ rfl
  have f3 : DataW.trod enc Try.prog w base spare held n 3 [v3] = some y3 := by simpa [Try.cells3] using hf 3 _ rfl
  have f4 : DataW.trod enc Try.prog w base spare held n 3 [v4] = some y4 := by simpa [Try.cells3] using hf 4 _ rfl
  have f5 : DataW.trod enc Try.prog w base spare held n 35 [v5] = some y5 := by simpa [Try.cells35] using hf 5 _ rfl
  obtain ⟨a0, e0, rfl, _⟩ := DataW.trod_int Try.underlying3 f0
  obtain ⟨a1, e1, rfl, _⟩ := DataW.trod_int Try.underlying3 f1
  obtain ⟨a2, e2, rfl, _⟩ := DataW.trod_int Try.underlying3 f2
  obtain ⟨a3, e3, rfl, _⟩ := DataW.trod_int Try.underlying3 f3
  obtain ⟨a4, e4, rfl, _⟩ := DataW.trod_int Try.underlying3 f4
  obtain ⟨fo, cap, F, e5, hF⟩ := open_fates f5 (fun n hn => hz n (by
    simp only [DataW.weights, Try.underlying37]
    simp [DataW.weightsEach, DataW.weights, hn]))
  simp only [List.cons.injEq, and_true] at e0 e1 e2 e3 e4 e5
  exact ⟨⟨a0, a1, a2, a3, a4, F⟩, fo, cap, by rw [e0, e1, e2, e3, e4, e5], hF⟩
set_option maxRecDepth 100000 in
theorem open_opArg {w : World} {base : Nat} {r : Reach} {b0 : Nat} {spare : Nat → Bool} {held : Bool} {v : Value} {d : DataW H} {ps : List MemPlace} (hval : Value.okWide Try.prog w r b0 37 v) (hd : DataW.Trod enc Try.prog w base spare held 37 v d ps) (hz : ∀ n ∈ d.weights Try.prog 37, n ≤ reachBytes) :
    ∃ (o : OpD) (fo : Option Addr) (cap : Nat), v = .agg #[.int .i64 o.d0, .int .i64 o.d1, .int .i64 o.d2, .int .i64 o.d3, .int .i64 o.d4, .slice fo o.F.length cap] ∧ FIn w fo cap o.F := by
  obtain ⟨cs, rfl, _⟩ := okWide_struct Try.underlying37 hval
  obtain ⟨fuel, h⟩ := hd
  have h : DataW.trod enc Try.prog w base spare held fuel 37 cs.toList = some (d, ps) := h
  obtain ⟨o, fo, cap, hc, hF⟩ := open_opc h hz
  refine ⟨o, fo, cap, ?_, hF⟩
  congr 1
  cases cs
  simpa using hc
theorem weights_all_mem {P : Program} {e : TypeId} {l : List (DataW H)} {d : DataW H} (hd : d ∈ l) : ∀ n ∈ d.weights P e, n ∈ DataW.weightsAll P e l := by
  induction l with
  | nil => cases hd
  | cons x r ih =>
    intro n hn
    simp only [DataW.weightsAll, List.mem_append]
    rcases List.mem_cons.1 hd with rfl | hd
    · exact Or.inl hn
    · exact Or.inr (ih hd n hn)
/-- A script that came in. -/
theorem open_ops {w : World} {base fuel : Nat} {spare : Nat → Bool} {held : Bool} {cs : List Value} {x : DataW H × List MemPlace} (h : DataW.trod enc Try.prog w base spare held fuel 22 cs = some x) (hz : ∀ n ∈ x.1.weights Try.prog 22, n ≤ reachBytes) :
    ∃ ao cap os, cs = [.slice ao os.length cap] ∧ OpsAt w ao os ∧ os.length ≤ 140737488355328 := by
  rcases open_slice Try.underlying22 h with ⟨rfl, rfl⟩ | ⟨a, len, cap, m, n, D, Pl, rfl, hb, hl, hm, hmm, rfl, hx⟩
  · exact ⟨none, 0, [], rfl, fun j p hj => by simp at hj, by simp⟩
  · have hlm : len ≤ m := by rw [hmm]; split <;> omega
    have hw : ∀ i, i < len → ∀ n ∈ (D i).weights Try.prog 37, n ≤ reachBytes := fun i hi n hn => hz n (by
      simp only [DataW.weights, Try.underlying22]
      exact List.mem_cons_of_mem _ (List.mem_append_left _ (weights_all_mem (d := D i) (List.mem_map.2 ⟨i, by simpa using hi, rfl⟩) n hn)))
    have hsz : len * 64 ≤ reachBytes := by
      have := hz ((((List.range len).map D).length + ((List.range (m - len)).map fun j => D (len + j)).length) * Try.prog.bytesOf 37) (by simp [DataW.weights, Try.underlying22])
      rw [Try.bytes37] at this
      simp at this
      omega
    have hex : ∀ i, i < len → ∃ o : OpD, ∃ b off fo cap, some a = some (⟨b, off, none⟩ : Addr) ∧ OpAt w b (off + i * 6) o fo cap := by
      intro i hi
      rw [Try.cells37] at hx
      have key : ∀ i, i < len → ∃ (o : OpD) (fo : Option Addr) (cap : Nat), FIn w fo cap o.F ∧ ∀ (j : Nat) (v : Value), [Value.int .i64 o.d0, .int .i64 o.d1, .int .i64 o.d2, .int .i64 o.d3, .int .i64 o.d4, .slice fo o.F.length cap][j]? = some v → w.cell? ((a.add (i * 6)).add j) = some v := by
        intro i hi
        obtain ⟨cs', hc, ht⟩ := hx i (by omega)
        obtain ⟨_, hlen, hcell⟩ := World.cells?_some hc
        obtain ⟨o, fo, cap, rfl, hF⟩ := open_opc ht (hw i hi)
        refine ⟨o, fo, cap, hF, fun j v hv => ?_⟩
        have hj : j < 6 := (List.getElem?_eq_some_iff.1 hv).1
        have := hcell j hj
        rw [this]
        simpa using hv
      obtain ⟨o0, f0, c0, _, k0⟩ := key 0 (by omega)
      have ha : a = ⟨a.block, a.off, none⟩ := addr_plain (by simpa [Addr.add] using k0 0 _ rfl) (fun _ _ _ => trivial) ⟨_, _, rfl⟩
      obtain ⟨o, fo, cap, hF, k⟩ := key i hi
      rw [ha] at k
      simp only [Addr.add_lit] at k
      exact ⟨o, a.block, a.off, fo, cap, by rw [← ha], ⟨k 0 _ rfl, k 1 _ rfl, k 2 _ rfl, k 3 _ rfl, k 4 _ rfl, k 5 _ rfl, hF⟩⟩
    obtain ⟨os, hF1, hF2⟩ : ∃ os : List OpD, os.length = len ∧ OpsAt w (some a) os := by
      clear hsz hx hz h hlm hmm hl hw
      induction len with
      | zero => exact ⟨[], rfl, fun j p hj => by simp at hj⟩
      | succ k ih =>
        obtain ⟨F, f1, f2⟩ := ih (fun i hi => hex i (by omega))
        obtain ⟨p, g1⟩ := hex k (by omega)
        refine ⟨F ++ [p], by simp [f1], ?_⟩
        intro j q hj
        by_cases hjk : j < F.length
        · rw [List.getElem?_append_left hjk] at hj; exact f2 j q hj
        · have hlt := (List.getElem?_eq_some_iff.1 hj).1
          have hjk2 : j = k := by simp at hlt; omega
          subst hjk2
          rw [List.getElem?_append_right (by omega), f1, Nat.sub_self] at hj
          simp at hj
          subst hj
          exact g1
    exact ⟨some a, cap, os, by rw [hF1], hF2, by rw [hF1]; unfold reachBytes at hsz; omega⟩
end
end Go.Proofs.Ytgcfjphjekkkmaa
