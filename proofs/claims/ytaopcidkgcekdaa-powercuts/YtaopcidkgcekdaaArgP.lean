/- Steps of power's scripts that came in, opened. -/
import Derived.Test.YtaopcidkgcekdaaArgR
import Derived.Test.YtaopcidkgcekdaaDoes
namespace Go.Proofs.Ytaopcidkgcekdaa
open Go.ChangeShapes Go.WideShapes Go.ChangeAt Go.RowKit Go.Deep Ap

theorem Try.cells45 : Try.prog.cellsOf 45 = 6 := by kernel_rfl
theorem Try.bytes45 : Try.prog.bytesOf 45 = 80 := by kernel_rfl
theorem Try.cells4b : Try.prog.cellsOf 4 = 1 := by kernel_rfl
/-- A step: its kind, device, number, bytes, whether these stand as they are, fates. -/
structure Stp where
  kd : Int
  on : Int
  at_ : Int
  B : List Nat
  raw : Bool
  F : List (Int × Int)
structure BIn (w : World) (bo : Option Addr) (cap : Nat) (B : List Nat) : Prop where
  at_ : At w bo B
  nil : bo = none → B.length = 0 ∧ cap = 0
  size : B.length ≤ 140737488355000
theorem BIn.grown {w w' : World} {bo : Option Addr} {cap : Nat} {B : List Nat} (h : BIn w bo cap B) (hg : w.grownBy w' none) : BIn w' bo cap B := ⟨h.at_.grown hg, h.nil, h.size⟩
def scells (o : Stp) (bo : Option Addr) (bc : Nat) (fo : Option Addr) (fc : Nat) : List Value := [.int .i64 o.kd, .int .i64 o.on, .int .i64 o.at_, .slice bo o.B.length bc, .bool o.raw, .slice fo o.F.length fc]
structure SIn (w : World) (o : Stp) (bo : Option Addr) (bc : Nat) (fo : Option Addr) (fc : Nat) : Prop where
  bin : BIn w bo bc o.B
  fin : FIn w fo fc o.F
  hi : o.at_ ≤ 9223372036854775807
theorem SIn.grown {w w' : World} {o : Stp} {bo fo : Option Addr} {bc fc : Nat} (h : SIn w o bo bc fo fc) (hg : w.grownBy w' none) : SIn w' o bo bc fo fc := ⟨h.bin.grown hg, h.fin.grown hg, h.hi⟩
structure StAt (w : World) (b off : Nat) (o : Stp) (bo : Option Addr) (bc : Nat) (fo : Option Addr) (fc : Nat) : Prop where
  c0 : w.cell? ⟨b, off, none⟩ = some (.int .i64 o.kd)
  c1 : w.cell? ⟨b, off + 1, none⟩ = some (.int .i64 o.on)
  c2 : w.cell? ⟨b, off + 2, none⟩ = some (.int .i64 o.at_)
  c3 : w.cell? ⟨b, off + 3, none⟩ = some (.slice bo o.B.length bc)
  c4 : w.cell? ⟨b, off + 4, none⟩ = some (.bool o.raw)
  c5 : w.cell? ⟨b, off + 5, none⟩ = some (.slice fo o.F.length fc)
  sin : SIn w o bo bc fo fc
theorem StAt.grown {w w' : World} {b off : Nat} {o : Stp} {bo fo : Option Addr} {bc fc : Nat} (h : StAt w b off o bo bc fo fc) (hg : w.grownBy w' none) : StAt w' b off o bo bc fo fc :=
  ⟨hg.cell h.c0 (by simp), hg.cell h.c1 (by simp), hg.cell h.c2 (by simp), hg.cell h.c3 (by simp), hg.cell h.c4 (by simp), hg.cell h.c5 (by simp), h.sin.grown hg⟩
def StsAt (w : World) (ao : Option Addr) (os : List Stp) : Prop := ∀ j o, os[j]? = some o → ∃ b off bo bc fo fc, ao = some ⟨b, off, none⟩ ∧ StAt w b (off + j * 6) o bo bc fo fc
theorem StsAt.grown {w w' : World} {ao : Option Addr} {os : List Stp} (h : StsAt w ao os) (hg : w.grownBy w' none) : StsAt w' ao os := by
  intro j o hj
  obtain ⟨b, off, bo, bc, fo, fc, e, ho⟩ := h j o hj
  exact ⟨b, off, bo, bc, fo, fc, e, ho.grown hg⟩
section
variable {H : Type} {enc : TypeId × Value → H}
theorem open_stc {w : World} {base fuel : Nat} {spare : Nat → Bool} {held : Bool} {cs : List Value} {x : DataW H × List MemPlace} (h : DataW.trod enc Try.prog w base spare held fuel 45 cs = some x) (hz : ∀ n ∈ x.1.weights Try.prog 45, n ≤ reachBytes) :
    ∃ (o : Stp) (bo : Option Addr) (bc : Nat) (fo : Option Addr) (fc : Nat), cs = scells o bo bc fo fc ∧ SIn w o bo bc fo fc := by
  obtain ⟨xs, n, _, rfl, hl, hsz, hf⟩ := DataW.trod_struct Try.underlying45 h
  rw [Try.cells45] at hl
  obtain ⟨v0, v1, v2, v3, v4, v5, rfl⟩ := list6 hl
  obtain ⟨y0, y1, y2, y3, y4, y5, rfl⟩ := list6 (show xs.length = 6 from hsz)
  have f0 : DataW.trod enc Try.prog w base spare held n 3 [v0] = some y0 := by simpa [Try.cells3] using hf 0 _ rfl
  have f1 : DataW.trod enc Try.prog w base spare held n 3 [v1] = some y1 := by simpa [Try.cells3] using hf 1 _ rfl
  have f2 : DataW.trod enc Try.prog w base spare held n 3 [v2] = some y2 := by simpa [Try.cells3] using hf 2 _ rfl
  have f3 : DataW.trod enc Try.prog w base spare held n 22 [v3] = some y3 := by simpa [Try.cells46] using hf 3 _ rfl
  have f4 : DataW.trod enc Try.prog w base spare held n 4 [v4] = some y4 := by simpa [Try.cells4b] using hf 4 _ rfl
  have f5 : DataW.trod enc Try.prog w base spare held n 23 [v5] = some y5 := by simpa [Try.cells35] using hf 5 _ rfl
  obtain ⟨a0, e0, rfl, _⟩ := DataW.trod_int Try.underlying3 f0
  obtain ⟨a1, e1, rfl, _⟩ := DataW.trod_int Try.underlying3 f1
  obtain ⟨a2, e2, rfl, w2⟩ := DataW.trod_int Try.underlying3 f2
  obtain ⟨bo, bc, B, e3, hB1, hB2, hB3⟩ := open_bytes f3 (fun n hn => hz n (by
    simp only [DataW.weights, Try.underlying45]
    simp [DataW.weightsEach, DataW.weights, hn]))
  obtain ⟨a4, e4, rfl⟩ := DataW.trod_bool Try.underlying4 f4
  obtain ⟨fo, cap, F, e5, hF⟩ := open_fates f5 (fun n hn => hz n (by
    simp only [DataW.weights, Try.underlying45]
    simp [DataW.weightsEach, DataW.weights, hn]))
  simp only [List.cons.injEq, and_true] at e0 e1 e2 e3 e4 e5
  exact ⟨⟨a0, a1, a2, B, a4, F⟩, bo, bc, fo, cap, by rw [e0, e1, e2, e3, e4, e5]; rfl, ⟨⟨hB1, hB2, hB3⟩, hF, (bounds_i64 w2).2⟩⟩
/-- A script that came in. -/
theorem open_sts {w : World} {base fuel : Nat} {spare : Nat → Bool} {held : Bool} {cs : List Value} {x : DataW H × List MemPlace} (h : DataW.trod enc Try.prog w base spare held fuel 38 cs = some x) (hz : ∀ n ∈ x.1.weights Try.prog 38, n ≤ reachBytes) :
    ∃ ao cap os, cs = [.slice ao os.length cap] ∧ StsAt w ao os ∧ os.length ≤ cap ∧ os.length ≤ 140737488355328 := by
  rcases open_slice Try.underlying38 h with ⟨rfl, rfl⟩ | ⟨a, len, cap, m, n, D, Pl, rfl, hb, hl, hm, hmm, rfl, hx⟩
  · exact ⟨none, 0, [], rfl, fun j p hj => by simp at hj, by simp, by simp⟩
  · have hlm : len ≤ m := by rw [hmm]; split <;> omega
    have hw : ∀ i, i < len → ∀ n ∈ (D i).weights Try.prog 45, n ≤ reachBytes := fun i hi n hn => hz n (by
      simp only [DataW.weights, Try.underlying38]
      exact List.mem_cons_of_mem _ (List.mem_append_left _ (weights_all_mem (d := D i) (List.mem_map.2 ⟨i, by simpa using hi, rfl⟩) n hn)))
    have hsz : len * 80 ≤ reachBytes := by
      have := hz ((((List.range len).map D).length + ((List.range (m - len)).map fun j => D (len + j)).length) * Try.prog.bytesOf 45) (by simp [DataW.weights, Try.underlying38])
      rw [Try.bytes45] at this
      simp at this
      omega
    have hex : ∀ i, i < len → ∃ o : Stp, ∃ b off bo bc fo fc, some a = some (⟨b, off, none⟩ : Addr) ∧ StAt w b (off + i * 6) o bo bc fo fc := by
      intro i hi
      rw [Try.cells45] at hx
      have key : ∀ i, i < len → ∃ (o : Stp) (bo : Option Addr) (bc : Nat) (fo : Option Addr) (fc : Nat), SIn w o bo bc fo fc ∧ ∀ (j : Nat) (v : Value), (scells o bo bc fo fc)[j]? = some v → w.cell? ((a.add (i * 6)).add j) = some v := by
        intro i hi
        obtain ⟨cs', hc, ht⟩ := hx i (by omega)
        obtain ⟨_, hlen, hcell⟩ := World.cells?_some hc
        obtain ⟨o, bo, bc, fo, fc, rfl, hF⟩ := open_stc ht (hw i hi)
        refine ⟨o, bo, bc, fo, fc, hF, fun j v hv => ?_⟩
        have hj : j < 6 := (List.getElem?_eq_some_iff.1 hv).1
        have := hcell j hj
        rw [this]
        simpa using hv
      obtain ⟨o0, b0, bc0, f0, c0, _, k0⟩ := key 0 (by omega)
      have ha : a = ⟨a.block, a.off, none⟩ := addr_plain (by simpa [Addr.add] using k0 0 _ rfl) (fun _ _ _ => trivial) ⟨_, _, rfl⟩
      obtain ⟨o, bo, bc, fo, fc, hF, k⟩ := key i hi
      rw [ha] at k
      simp only [Addr.add_lit] at k
      exact ⟨o, a.block, a.off, bo, bc, fo, fc, by rw [← ha], ⟨k 0 _ rfl, k 1 _ rfl, k 2 _ rfl, k 3 _ rfl, k 4 _ rfl, k 5 _ rfl, hF⟩⟩
    obtain ⟨os, hF1, hF2⟩ : ∃ os : List Stp, os.length = len ∧ StsAt w (some a) os := by
      clear hsz hx hz h hlm hmm hl hw
      induction len with
      | zero => exact ⟨[], rfl, fun j p hj => by simp at hj⟩
      | succ k ih =>
        obtain ⟨F, f1, f2⟩ := ih (fun i hi => hex i (by omega))
        obtain ⟨p, g1⟩ := hex k (by omega)
        refine ⟨F ++ [p], by simp [f1], ?_⟩
        intro j q hj
        by_cases hjk : j < F.length
        · rw [List.getElem?_append_left hjk] at hj; exact f2 j q hj
        · have hlt := (List.getElem?_eq_some_iff.1 hj).1
          have hjk2 : j = k := by simp at hlt; omega
          subst hjk2
          rw [List.getElem?_append_right (by omega), f1, Nat.sub_self] at hj
          simp at hj
          subst hj
          exact g1
    exact ⟨some a, cap, os, by rw [hF1], hF2, by rw [hF1]; omega, by rw [hF1]; unfold reachBytes at hsz; omega⟩
end
end Go.Proofs.Ytaopcidkgcekdaa
