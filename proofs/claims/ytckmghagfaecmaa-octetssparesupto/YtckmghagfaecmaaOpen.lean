/- A script that came in, opened: its steps lie in memory; what its size says of their bytes. -/
import Derived.Test.YtckmghagfaecmaaRows
import Derived.Test.YtckmghagfaecmaaBack
import Derived.ProofKit
import Derived.OpenShut
import Derived.JoinedCond
import Derived.Deep.Slices
namespace Go.Proofs.Ytckmghagfaecmaa
open Go.ChangeShapes Go.WideShapes Go.ChangeAt Go.RowKit Go.Deep

theorem bulk_one {H : Type} (d : DataW H) : 1 ≤ Rows.uptoBulk d := by
  cases d with
  | lit l => cases l <;> simp [Rows.uptoBulk]
  | nil => simp [Rows.uptoBulk]
  | ptr d => simp [Rows.uptoBulk]
  | slice elems spare => simp [Rows.uptoBulk]
  | agg parts => simp [Rows.uptoBulk]
  | iface t d => simp [Rows.uptoBulk]
  | map entries => simp [Rows.uptoBulk]
  | held h => simp [Rows.uptoBulk]
theorem bulk_length {H : Type} (l : List (DataW H)) : l.length ≤ Rows.uptoBulkAll l := by
  induction l with
  | nil => simp [Rows.uptoBulkAll]
  | cons x r ih => have := bulk_one x; simp only [Rows.uptoBulkAll, List.length_cons]; omega

theorem Try.cells5 : Try.prog.cellsOf 5 = 1 := by kernel_rfl
theorem Try.cells55 : Try.prog.cellsOf 55 = 4 := by kernel_rfl
theorem Try.cells3 : Try.prog.cellsOf 3 = 1 := by kernel_rfl
theorem Try.cells30 : Try.prog.cellsOf 30 = 1 := by kernel_rfl
theorem Try.cells32 : Try.prog.cellsOf 32 = 1 := by kernel_rfl

variable {H : Type} {enc : TypeId × Value → H}

/-- Bytes that came in. -/
theorem open_bytes {w : World} {base fuel : Nat} {spare : Nat → Bool} {held : Bool} {cs : List Value} {x : DataW H × List MemPlace} (h : DataW.trod enc Try.prog w base spare held fuel 32 cs = some x) :
    ∃ bo cap b, cs = [.slice bo b.length cap] ∧ BAt w bo cap b ∧ Byt b ∧ b.length ≤ Rows.uptoBulk x.1 := by
  rcases open_ints Try.underlying32 Try.underlying5 Try.cells5 h with ⟨rfl, rfl⟩ | ⟨a, len, cap, zs, rfl, _, hl, hm, hz, rfl, hcell, hwf⟩
  · exact ⟨none, 0, [], rfl, ⟨At.nil _ _, Nat.le_refl _, Nat.zero_le _, fun _ => rfl⟩, (fun x hx => by cases hx), by simp⟩
  · have hzl : len ≤ zs.length := by rw [hz]; split <;> omega
    have hl2 : (zs.take len).length = len := by simp; omega
    refine ⟨some a, cap, zs.take len, by rw [hl2], ⟨?_, by omega, hm, fun e => by cases e⟩, ?_, ?_⟩
    · intro j u hu
      refine ⟨a, rfl, ?_⟩
      rw [List.getElem?_take] at hu
      split at hu
      · obtain ⟨hj, he⟩ := List.getElem?_eq_some_iff.1 hu
        rw [hcell j hj]
        simp [hj, he]
      · cases hu
    · intro y hy
      have := bounds_u8 (hwf y (List.mem_of_mem_take hy))
      omega
    · have h1 := bulk_length (H := H) (lits .u8 (zs.take len))
      simp only [Rows.uptoBulk]
      simp only [lits, List.length_map] at h1 ⊢
      omega

theorem list4 {α : Type} {l : List α} (h : l.length = 4) : ∃ a b c d, l = [a, b, c, d] := by
  match l, h with
  | [a, b, c, d], _ => exact ⟨a, b, c, d, rfl⟩

/-- One step that came in. -/
theorem open_op {w : World} {base fuel : Nat} {spare : Nat → Bool} {held : Bool} {a : Addr} {cs : List Value} {x : DataW H × List MemPlace} (hc : w.cells? base a 4 = some cs) (h : DataW.trod enc Try.prog w base spare held fuel 55 cs = some x) :
    ∃ o bo cap, OpAt w a.block a.off o bo cap ∧ a = ⟨a.block, a.off, none⟩ ∧ o.b.length ≤ Rows.uptoBulk x.1 := by
  obtain ⟨_, hlen, hcell⟩ := World.cells?_some hc
  obtain ⟨xs, n, _, rfl, hl, hsz, hf⟩ := DataW.trod_struct Try.underlying55 h
  obtain ⟨v0, v1, v2, v3, rfl⟩ := list4 hlen
  obtain ⟨y0, y1, y2, y3, rfl⟩ := list4 (show xs.length = 4 from hsz)
  clear hl hsz
  have f0 : DataW.trod enc Try.prog w base spare held n 3 [v0] = some y0 := by simpa [Try.cells3] using hf 0 _ rfl
  have f1 : DataW.trod enc Try.prog w base spare held n 30 [v1] = some y1 := by simpa [Try.cells30] using hf 1 _ rfl
  have f2 : DataW.trod enc Try.prog w base spare held n 3 [v2] = some y2 := by simpa [Try.cells3] using hf 2 _ rfl
  have f3 : DataW.trod enc Try.prog w base spare held n 32 [v3] = some y3 := by simpa [Try.cells32] using hf 3 _ rfl
  obtain ⟨k, e0, rfl, wk⟩ := DataW.trod_int Try.underlying3 f0
  obtain ⟨N, e1, rfl, wN⟩ := DataW.trod_int Try.underlying30 f1
  obtain ⟨T, e2, rfl, wT⟩ := DataW.trod_int Try.underlying3 f2
  obtain ⟨bo, cap, b, e3, hb, hbb, hbl⟩ := open_bytes f3
  simp only [List.cons.injEq, and_true] at e0 e1 e2 e3
  subst e0 e1 e2 e3
  have hN := bounds_u64 wN
  have hT := bounds_i64 wT
  have g0 := hcell 0 (by omega)
  have ha : a = ⟨a.block, a.off, none⟩ := by
    have h1 : w.cell? a = some (.int .i64 k) := by simpa [Addr.add] using g0
    have h2 : a.spot = none := by
      unfold World.cell? at h1
      split at h1
      · split at h1
        · cases h1
        · rename_i hs; simpa using hs
      · cases h1
    cases a; simp_all
  rw [ha] at hcell
  refine ⟨⟨k, N, T, b⟩, bo, cap, ⟨?_, ?_, ?_, ?_, hb, ⟨by simp only; omega, by simp only; omega, by simp only; omega, by simp only; omega, hbb⟩⟩, ha, ?_⟩
  · simpa [Addr.add_lit] using hcell 0 (by omega)
  · simpa [Addr.add_lit] using hcell 1 (by omega)
  · simpa [Addr.add_lit] using hcell 2 (by omega)
  · simpa [Addr.add_lit] using hcell 3 (by omega)
  · simp only [List.map_cons, List.map_nil, Rows.uptoBulk, Rows.uptoBulkAll]
    omega

/-- All steps that came in. -/
theorem open_steps {w : World} {base len n : Nat} {spare : Nat → Bool} {held : Bool} {a : Addr} {D : Nat → DataW H} {Pl : Nat → List MemPlace}
    (h : ∀ i, i < len → ∃ cs', w.cells? base (a.add (i * 4)) 4 = some cs' ∧ DataW.trod enc Try.prog w base spare held n 55 cs' = some (D i, Pl i)) :
    ∃ os : List OpD, os.length = len ∧ OpsAt w (some a) os ∧ (∀ o ∈ os, OpOk o) ∧ (∀ i o, os[i]? = some o → o.b.length ≤ Rows.uptoBulk (D i)) := by
  have hex : ∀ i, i < len → ∃ o : OpD, (∃ blk off bo cap, some a = some (⟨blk, off, none⟩ : Addr) ∧ OpAt w blk (off + i * 4) o bo cap) ∧ OpOk o ∧ o.b.length ≤ Rows.uptoBulk (D i) := by
    intro i hi
    obtain ⟨cs', hc, ht⟩ := h i hi
    obtain ⟨o, bo, cap, hop, _, hbl⟩ := open_op hc ht
    have ha : a = ⟨a.block, a.off, none⟩ := by
      obtain ⟨cs0, hc0, ht0⟩ := h 0 (by omega)
      obtain ⟨_, _, _, _, he, _⟩ := open_op hc0 ht0
      simpa [Addr.add] using he
    refine ⟨o, ⟨a.block, a.off, bo, cap, by rw [← ha], ?_⟩, hop.ok, hbl⟩
    have e1 : (a.add (i * 4)).block = a.block := addr_add_block _ _
    have e2 : (a.add (i * 4)).off = a.off + i * 4 := by rw [ha, Addr.add_lit]
    rw [e1, e2] at hop
    exact hop
  clear h
  induction len with
  | zero => exact ⟨[], rfl, (fun j o h => by simp at h), (fun o h => by cases h), fun i o h => by simp at h⟩
  | succ k ih =>
    obtain ⟨os, h1, h2, h3, h4⟩ := ih (fun i hi => hex i (by omega))
    obtain ⟨o, g1, g2, g3⟩ := hex k (by omega)
    refine ⟨os ++ [o], by simp [h1], ?_, ?_, ?_⟩
    · intro j o' hj
      by_cases hjk : j < os.length
      · rw [List.getElem?_append_left hjk] at hj; exact h2 j o' hj
      · have hlt := (List.getElem?_eq_some_iff.1 hj).1
        have hjk2 : j = k := by simp at hlt; omega
        subst hjk2
        rw [List.getElem?_append_right (by omega), h1, Nat.sub_self] at hj
        simp at hj
        subst hj
        exact g1
    · intro o' ho'
      rcases List.mem_append.1 ho' with h | h
      · exact h3 o' h
      · simp at h; subst h; exact g2
    · intro i o' hi
      by_cases hik : i < os.length
      · rw [List.getElem?_append_left hik] at hi; exact h4 i o' hi
      · have hlt := (List.getElem?_eq_some_iff.1 hi).1
        have hik2 : i = k := by simp at hlt; omega
        subst hik2
        rw [List.getElem?_append_right (by omega), h1, Nat.sub_self] at hi
        simp at hi
        subst hi
        exact g3

/-- The steps' bytes, together, are no more than what came in. -/
theorem steps_sum {D : Nat → DataW H} : ∀ (os : List OpD) (k : Nat), (∀ i o, os[i]? = some o → o.b.length ≤ Rows.uptoBulk (D (k + i))) →
    (os.map (fun o => o.b.length)).sum ≤ Rows.uptoBulkAll ((List.range' k os.length).map D)
  | [], _, _ => by simp
  | o :: os, k, h => by
    have h0 := h 0 o rfl
    have ih := steps_sum os (k + 1) (fun i o' hi => by have := h (i + 1) o' (by simpa using hi); rw [show k + (i + 1) = k + 1 + i from by omega] at this; exact this)
    simp only [List.map_cons, List.sum_cons, List.length_cons, List.range'_succ, Rows.uptoBulkAll]
    rw [Nat.add_zero] at h0
    omega
theorem putAll_sum : ∀ (os : List OpD), (putAll os).length ≤ 8 * os.length + (os.map (fun o => o.b.length)).sum
  | [] => by simp [putAll]
  | o :: os => by
    have h1 := putF_len o
    have h2 := putAll_sum os
    rw [putAll_cons, List.length_append]
    simp only [List.length_cons, List.map_cons, List.sum_cons]
    omega
end Go.Proofs.Ytckmghagfaecmaa
