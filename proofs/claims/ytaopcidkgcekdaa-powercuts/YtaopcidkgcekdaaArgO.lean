/- Operations, scripts and fates that came in, opened. -/
import Derived.Test.YtaopcidkgcekdaaArgT
import Derived.Test.YtaopcidkgcekdaaCrash
namespace Go.Proofs.Ytaopcidkgcekdaa
open Go.ChangeShapes Go.WideShapes Go.ChangeAt Go.RowKit Go.Deep Ap

theorem Try.cells35 : Try.prog.cellsOf 23 = 1 := by kernel_rfl
theorem Try.bytes69 : Try.prog.bytesOf 66 = 16 := by kernel_rfl
theorem list6 {α : Type} {l : List α} (h : l.length = 6) : ∃ a b c d e f, l = [a, b, c, d, e, f] := by
  match l, h with
  | [a, b, c, d, e, f], _ => exact ⟨a, b, c, d, e, f, rfl⟩
/-- A script's step: five numbers and its fates. -/
structure OpD where
  d0 : Int
  d1 : Int
  d2 : Int
  d3 : Int
  d4 : Int
  F : List (Int × Int)
/-- Fates that came in. -/
structure FIn (w : World) (fo : Option Addr) (cap : Nat) (F : List (Int × Int)) : Prop where
  at_ : FatesAt w fo F
  nil : fo = none → F.length = 0 ∧ cap = 0
  size : F.length * 16 ≤ 140737488355000
  lt : ∀ a, fo = some a → 0 < F.length → a.block < w.heap.size
structure OpAt (w : World) (b off : Nat) (o : OpD) (fo : Option Addr) (cap : Nat) : Prop where
  c0 : w.cell? ⟨b, off, none⟩ = some (.int .i64 o.d0)
  c1 : w.cell? ⟨b, off + 1, none⟩ = some (.int .i64 o.d1)
  c2 : w.cell? ⟨b, off + 2, none⟩ = some (.int .i64 o.d2)
  c3 : w.cell? ⟨b, off + 3, none⟩ = some (.int .i64 o.d3)
  c4 : w.cell? ⟨b, off + 4, none⟩ = some (.int .i64 o.d4)
  c5 : w.cell? ⟨b, off + 5, none⟩ = some (.slice fo o.F.length cap)
  fin : FIn w fo cap o.F
def OpsAt (w : World) (ao : Option Addr) (os : List OpD) : Prop := ∀ j o, os[j]? = some o → ∃ b off fo cap, ao = some ⟨b, off, none⟩ ∧ OpAt w b (off + j * 6) o fo cap
theorem cell_lt {w : World} {a : Addr} {v : Value} (h : w.cell? a = some v) : a.block < w.heap.size := by
  unfold World.cell? at h
  split at h
  · rename_i hb; exact (Array.getElem?_eq_some_iff.1 hb).1
  · cases h
theorem fates_lt {w : World} {fo : Option Addr} {F : List (Int × Int)} (h : FatesAt w fo F) : ∀ a, fo = some a → 0 < F.length → a.block < w.heap.size := by
  intro a e hl
  obtain ⟨b, o, e', c1, _⟩ := h 0 F[0] (List.getElem?_eq_getElem hl)
  rw [e] at e'
  cases e'
  exact cell_lt c1
section
variable {H : Type} {enc : TypeId × Value → H}
theorem addr_plain {w : World} {a : Addr} {v : Value} (h : w.cell? a = some v) (hv : ∀ (k : IntKind) (n : Int), v = .int k n → True) (hi : ∃ k n, v = .int k n) : a = ⟨a.block, a.off, none⟩ := by
  obtain ⟨k, n, rfl⟩ := hi
  have h2 : a.spot = none := by
    unfold World.cell? at h
    split at h
    · split at h
      · cases h
      · rename_i hs; simpa using hs
    · cases h
  cases a; simp_all
theorem open_fates {w : World} {base fuel : Nat} {spare : Nat → Bool} {held : Bool} {cs : List Value} {x : DataW H × List MemPlace} (h : DataW.trod enc Try.prog w base spare held fuel 23 cs = some x) (hz : ∀ n ∈ x.1.weights Try.prog 23, n ≤ reachBytes) :
    ∃ fo cap F, cs = [.slice fo F.length cap] ∧ FIn w fo cap F := by
  rcases open_slice Try.underlying23 h with ⟨rfl, rfl⟩ | ⟨a, len, cap, m, n, D, Pl, rfl, hb, hl, hm, hmm, rfl, hx⟩
  · exact ⟨none, 0, [], rfl, ⟨fun j p hj => by simp at hj, fun _ => ⟨rfl, rfl⟩, by simp, fun a e => by cases e⟩⟩
  · have hlm : len ≤ m := by rw [hmm]; split <;> omega
    have hsz : len * 16 ≤ reachBytes := by
      have := hz ((((List.range len).map D).length + ((List.range (m - len)).map fun j => D (len + j)).length) * Try.prog.bytesOf 66) (by simp [DataW.weights, Try.underlying23])
      rw [Try.bytes69] at this
      simp at this
      omega
    have hex : ∀ i, i < len → ∃ p : Int × Int, ∃ b o, some a = some (⟨b, o, none⟩ : Addr) ∧ w.cell? ⟨b, o + i * 2, none⟩ = some (.int .i64 p.1) ∧ w.cell? ⟨b, o + i * 2 + 1, none⟩ = some (.int .i64 p.2) := by
      intro i hi
      rw [Try.cells69] at hx
      have key : ∀ i, i < len → ∃ K A : Int, w.cell? (a.add (i * 2)) = some (.int .i64 K) ∧ w.cell? ((a.add (i * 2)).add 1) = some (.int .i64 A) := by
        intro i hi
        obtain ⟨cs', hc, ht⟩ := hx i (by omega)
        obtain ⟨_, hlen, hcell⟩ := World.cells?_some hc
        obtain ⟨K, A, rfl⟩ := open_fate ht
        refine ⟨K, A, ?_, ?_⟩
        · have := hcell 0 (by omega); simpa [Addr.add] using this
        · have := hcell 1 (by omega); simpa using this
      obtain ⟨K0, A0, k0, _⟩ := key 0 (by omega)
      have ha : a = ⟨a.block, a.off, none⟩ := addr_plain (by simpa [Addr.add] using k0) (fun _ _ _ => trivial) ⟨_, _, rfl⟩
      obtain ⟨K, A, k1, k2⟩ := key i hi
      refine ⟨(K, A), a.block, a.off, by rw [← ha], ?_, ?_⟩
      · rw [ha, Addr.add_lit] at k1; exact k1
      · rw [ha, Addr.add_lit, Addr.add_lit] at k2; exact k2
    obtain ⟨F, hF1, hF2⟩ : ∃ F : List (Int × Int), F.length = len ∧ FatesAt w (some a) F := by
      clear hsz hx hz h hlm hmm hl
      induction len with
      | zero => exact ⟨[], rfl, fun j p hj => by simp at hj⟩
      | succ k ih =>
        obtain ⟨F, f1, f2⟩ := ih (fun i hi => hex i (by omega))
        obtain ⟨p, g1⟩ := hex k (by omega)
        refine ⟨F ++ [p], by simp [f1], ?_⟩
        intro j q hj
        by_cases hjk : j < F.length
        · rw [List.getElem?_append_left hjk] at hj; exact f2 j q hj
        · have hlt := (List.getElem?_eq_some_iff.1 hj).1
          have hjk2 : j = k := by simp at hlt; omega
          subst hjk2
          rw [List.getElem?_append_right (by omega), f1, Nat.sub_self] at hj
          simp at hj
          subst hj
          exact g1
    exact ⟨some a, cap, F, by rw [hF1], hF2, (fun e => by cases e), by rw [hF1]; unfold reachBytes at hsz; omega, fates_lt hF2⟩
theorem weights_all_mem {P : Program} {e : TypeId} {l : List (DataW H)} {d : DataW H} (hd : d ∈ l) : ∀ n ∈ d.weights P e, n ∈ DataW.weightsAll P e l := by
  induction l with
  | nil => cases hd
  | cons x r ih =>
    intro n hn
    simp only [DataW.weightsAll, List.mem_append]
    rcases List.mem_cons.1 hd with rfl | hd
    · exact Or.inl hn
    · exact Or.inr (ih hd n hn)
end
end Go.Proofs.Ytaopcidkgcekdaa
