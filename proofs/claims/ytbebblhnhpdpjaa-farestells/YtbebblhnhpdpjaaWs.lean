/- Fares that came in, opened; their sizes. -/
import Derived.Test.YtbebblhnhpdpjaaWr
import Derived.Test.YtbebblhnhpdpjaaLa
import Derived.Deep.Slices
namespace Go.Proofs.Ytbebblhnhpdpjaa
open Go.ChangeShapes Go.WideShapes Go.ChangeAt Go.RowKit Go.Deep

theorem Try.cells33 : Try.prog.cellsOf 33 = 1 := by kernel_rfl
theorem Try.cells27 : Try.prog.cellsOf 27 = 1 := by kernel_rfl
theorem Try.bytes33 : Try.prog.bytesOf 33 = 8 := by kernel_rfl
theorem Try.cells48 : Try.prog.cellsOf 48 = 2 := by kernel_rfl
theorem Try.bytes48 : Try.prog.bytesOf 48 = 32 := by kernel_rfl
theorem list1 {α : Type} {l : List α} (h : l.length = 1) : ∃ a, l = [a] := by
  match l, h with
  | [a], _ => exact ⟨a, rfl⟩
theorem list2 {α : Type} {l : List α} (h : l.length = 2) : ∃ a b, l = [a, b] := by
  match l, h with
  | [a, b], _ => exact ⟨a, b, rfl⟩
section
variable {H : Type} {enc : TypeId × Value → H}
theorem addr_add_nought (a : Addr) : a.add 0 = a := by
  unfold Addr.add; cases a with | mk b o sp => cases sp <;> simp
theorem addr_plain {w : World} {a : Addr} {u : Nat} (h : w.cell? a = some (.float .f64 u)) : a = ⟨a.block, a.off, none⟩ := by
  have h2 : a.spot = none := by
    unfold World.cell? at h
    split at h
    · split at h
      · cases h
      · rename_i hs; simpa using hs
    · cases h
  cases a; simp_all
theorem weights_all_mem {P : Program} {e : TypeId} {l : List (DataW H)} {d : DataW H} (hd : d ∈ l) : ∀ n ∈ d.weights P e, n ∈ DataW.weightsAll P e l := by
  induction l with
  | nil => cases hd
  | cons x r ih =>
    intro n hn
    simp only [DataW.weightsAll, List.mem_append]
    rcases List.mem_cons.1 hd with rfl | hd
    · exact Or.inl hn
    · exact Or.inr (ih hd n hn)
/-- A row of floats that came in. -/
theorem open_reals {w : World} {base fuel : Nat} {spare : Nat → Bool} {held : Bool} {cs : List Value} {x : DataW H × List MemPlace} (h : DataW.trod enc Try.prog w base spare held fuel 27 cs = some x) (hz : ∀ n ∈ x.1.weights Try.prog 27, n ≤ reachBytes) :
    ∃ bo cap b, cs = [.slice bo b.length cap] ∧ BIn w bo cap b ∧ b.length ≤ 17592186043904 := by
  rcases open_slice Try.underlying27 h with ⟨rfl, rfl⟩ | ⟨a, len, cap, m, n, D, Pl, rfl, hb, hl, hm, hmm, rfl, hx⟩
  · exact ⟨none, 0, [], rfl, ⟨At.nil _ _, fun _ => ⟨rfl, rfl⟩, by simp, Nat.le_refl _⟩, by simp⟩
  · have hlm : len ≤ m := by rw [hmm]; split <;> omega
    have hsz : len * 8 ≤ reachBytes := by
      have := hz ((((List.range len).map D).length + ((List.range (m - len)).map fun j => D (len + j)).length) * Try.prog.bytesOf 33) (by simp [DataW.weights, Try.underlying27])
      rw [Try.bytes33] at this
      simp at this
      omega
    have key : ∀ i, i < len → ∃ u : Nat, w.cell? (a.add i) = some (.float .f64 u) := by
      intro i hi
      obtain ⟨cs', hc, ht⟩ := hx i (by omega)
      rw [Try.cells33] at hc
      obtain ⟨_, hlen, hcell⟩ := World.cells?_some hc
      obtain ⟨u, rfl, -, -⟩ := trod_float Try.underlying33 ht
      refine ⟨u, ?_⟩
      have := hcell 0 (by omega)
      rw [Nat.mul_one, addr_add_nought] at this
      simpa using this
    obtain ⟨xs, h1, h2⟩ : ∃ xs : List Nat, xs.length = len ∧ At w (some a) xs := by
      clear hsz hx hz h hlm hmm hl
      induction len with
      | zero => exact ⟨[], rfl, At.nil _ _⟩
      | succ k ih =>
        obtain ⟨F, f1, f2⟩ := ih (fun i hi => key i (by omega))
        obtain ⟨p, g1⟩ := key k (by omega)
        refine ⟨F ++ [p], by simp [f1], ?_⟩
        intro j q hj
        by_cases hjk : j < F.length
        · rw [List.getElem?_append_left hjk] at hj; exact f2 j q hj
        · have hlt := (List.getElem?_eq_some_iff.1 hj).1
          have hjk2 : j = k := by simp at hlt; omega
          subst hjk2
          rw [List.getElem?_append_right (by omega), f1, Nat.sub_self] at hj
          simp at hj
          subst hj
          exact ⟨a, rfl, g1⟩
    exact ⟨some a, cap, xs, by rw [h1], ⟨h2, (fun e => by cases e), by rw [h1]; unfold reachBytes at hsz; omega, by rw [h1]; omega⟩, by rw [h1]; unfold reachBytes at hsz; omega⟩
theorem open_fac {w : World} {base fuel : Nat} {spare : Nat → Bool} {held : Bool} {cs : List Value} {x : DataW H × List MemPlace} (h : DataW.trod enc Try.prog w base spare held fuel 48 cs = some x) (hz : ∀ n ∈ x.1.weights Try.prog 48, n ≤ reachBytes) :
    ∃ (p : Nat) (bo : Option Addr) (bc : Nat) (b : List Nat), cs = [.float .f64 p, .slice bo b.length bc] ∧ BIn w bo bc b ∧ b.length ≤ 17592186043904 := by
  obtain ⟨xs, n, _, rfl, hl, hsz, hf⟩ := DataW.trod_struct Try.underlying48 h
  rw [Try.cells48] at hl
  obtain ⟨v0, v1, rfl⟩ := list2 hl
  obtain ⟨y0, y1, rfl⟩ := list2 (show xs.length = 2 from hsz)
  have f0 : DataW.trod enc Try.prog w base spare held n 33 [v0] = some y0 := by simpa [Try.cells33] using hf 0 _ rfl
  have f1 : DataW.trod enc Try.prog w base spare held n 27 [v1] = some y1 := by simpa [Try.cells27] using hf 1 _ rfl
  obtain ⟨a0, e0, rfl, _⟩ := trod_float Try.underlying33 f0
  obtain ⟨bo, bc, B, e1, hB, hB2⟩ := open_reals f1 (fun n hn => hz n (by
    simp only [DataW.weights, Try.underlying48]
    simp [DataW.weightsEach, DataW.weights, hn]))
  simp only [List.cons.injEq, and_true] at e0 e1
  exact ⟨a0, bo, bc, B, by rw [e0, e1], hB, hB2⟩
/-- Fares that came in. -/
theorem open_fas {w : World} {base fuel : Nat} {spare : Nat → Bool} {held : Bool} {cs : List Value} {x : DataW H × List MemPlace} (h : DataW.trod enc Try.prog w base spare held fuel 22 cs = some x) (hz : ∀ n ∈ x.1.weights Try.prog 22, n ≤ reachBytes) :
    ∃ ao cap l, cs = [.slice ao l.length cap] ∧ FasAt w ao l ∧ Sz2 l ∧ l.length ≤ cap ∧ l.length ≤ 4398046510976 := by
  rcases open_slice Try.underlying22 h with ⟨rfl, rfl⟩ | ⟨a, len, cap, m, n, D, Pl, rfl, hb, hl, hm, hmm, rfl, hx⟩
  · exact ⟨none, 0, [], rfl, fun j p hj => by simp at hj, fun j p hj => by simp at hj, by simp, by simp⟩
  · have hlm : len ≤ m := by rw [hmm]; split <;> omega
    have hw : ∀ i, i < len → ∀ n ∈ (D i).weights Try.prog 48, n ≤ reachBytes := fun i hi n hn => hz n (by
      simp only [DataW.weights, Try.underlying22]
      exact List.mem_cons_of_mem _ (List.mem_append_left _ (weights_all_mem (d := D i) (List.mem_map.2 ⟨i, by simpa using hi, rfl⟩) n hn)))
    have hsz : len * 32 ≤ reachBytes := by
      have := hz ((((List.range len).map D).length + ((List.range (m - len)).map fun j => D (len + j)).length) * Try.prog.bytesOf 48) (by simp [DataW.weights, Try.underlying22])
      rw [Try.bytes48] at this
      simp at this
      omega
    have hex : ∀ i, i < len → ∃ c : Fa, ∃ b off bo bc, some a = some (⟨b, off, none⟩ : Addr) ∧ FaAt w b (off + i * 2) c.1 c.2 bo bc ∧ c.2.length ≤ 17592186043904 := by
      intro i hi
      rw [Try.cells48] at hx
      have key : ∀ i, i < len → ∃ (p : Nat) (bo : Option Addr) (bc : Nat) (B : List Nat), BIn w bo bc B ∧ B.length ≤ 17592186043904 ∧ ∀ (j : Nat) (v : Value), [Value.float .f64 p, .slice bo B.length bc][j]? = some v → w.cell? ((a.add (i * 2)).add j) = some v := by
        intro i hi
        obtain ⟨cs', hc, ht⟩ := hx i (by omega)
        obtain ⟨_, hlen, hcell⟩ := World.cells?_some hc
        obtain ⟨p, bo, bc, B, rfl, hF, hF2⟩ := open_fac ht (hw i hi)
        refine ⟨p, bo, bc, B, hF, hF2, fun j v hv => ?_⟩
        have hj : j < 2 := (List.getElem?_eq_some_iff.1 hv).1
        have := hcell j hj
        rw [this]
        simpa using hv
      obtain ⟨p0, b0, bc0, B0, _, _, k0⟩ := key 0 (by omega)
      have ha : a = ⟨a.block, a.off, none⟩ := addr_plain (u := p0) (by simpa [Addr.add] using k0 0 _ rfl)
      obtain ⟨p, bo, bc, B, hF, hF2, k⟩ := key i hi
      rw [ha] at k
      simp only [Addr.add_lit] at k
      exact ⟨(p, B), a.block, a.off, bo, bc, by rw [← ha], ⟨k 0 _ rfl, k 1 _ rfl, hF⟩, hF2⟩
    obtain ⟨l, hF1, hF2, hF3⟩ : ∃ l : List Fa, l.length = len ∧ FasAt w (some a) l ∧ Sz2 l := by
      clear hsz hx hz h hlm hmm hl hw
      induction len with
      | zero => exact ⟨[], rfl, fun j p hj => by simp at hj, fun j p hj => by simp at hj⟩
      | succ k ih =>
        obtain ⟨F, f1, f2, f3⟩ := ih (fun i hi => hex i (by omega))
        obtain ⟨p, b, off, bo, bc, g1, g2, g3⟩ := hex k (by omega)
        refine ⟨F ++ [p], by simp [f1], ?_, ?_⟩
        all_goals
          intro j q hj
          by_cases hjk : j < F.length
          · rw [List.getElem?_append_left hjk] at hj
            first | exact f2 j q hj | exact f3 j q hj
          · have hlt := (List.getElem?_eq_some_iff.1 hj).1
            have hjk2 : j = k := by simp at hlt; omega
            subst hjk2
            rw [List.getElem?_append_right (by omega), f1, Nat.sub_self] at hj
            simp at hj
            subst hj
            first | exact ⟨b, off, bo, bc, g1, g2⟩ | exact g3
    exact ⟨some a, cap, l, by rw [hF1], hF2, hF3, by rw [hF1]; omega, by rw [hF1]; unfold reachBytes at hsz; omega⟩
end
end Go.Proofs.Ytbebblhnhpdpjaa
