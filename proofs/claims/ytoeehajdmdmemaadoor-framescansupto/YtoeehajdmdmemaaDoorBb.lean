/- What FrameBack's frames come to: plain lists. -/
import Derived.Test.YtoeehajdmdmemaaDoorBa
namespace Go.Proofs.YtoeehajdmdmemaaDoor
open Go.RowKit
attribute [local go_sem ↓] Go.wp_at_zero Go.wp_at_succ

theorem slice_to41 (ao : Option Addr) (len cap n : Nat) (h : n ≤ cap) (w : World) : (Instr.slice 41 (.slice ao len cap) none (some (.int .i64 (n : Int))) none).run Tryd.prog w = .ok (.slice ao n cap) w := by
  simp [Instr.slice, run_underlying Tryd.underlying41, Instr.sliceBounds, Instr.sliceBound, asIntOf, h]
  intro _; cases ao <;> simp [Addr.add]
/-- The frame that stands behind them all. -/
def othF (E S : Int) (k : Nat) : Fr := ⟨(E + 1) % 18446744073709551616, (S + k + 1) % 18446744073709551616, []⟩
theorem othF_ok (E S : Int) (k : Nat) : (othF E S k).Ok := ⟨by simp only [othF]; omega, by simp only [othF]; omega, by simp only [othF]; omega, by simp only [othF]; omega, fun x hx => by cases hx⟩
theorem othF_stops (E S T : Int) (k : Nat) (_hE0 : 0 ≤ E) (_hE1 : E < 18446744073709551616) : ¬ Goes E T (othF E S k).out := by
  intro h
  have := getF_out (othF_ok E S k) (by simp [othF]) []
  rw [List.append_nil] at this
  have h2 := h.2.1
  rw [this] at h2
  simp only [othF] at h2
  omega
theorem back_row {E S : Int} {fs : List Fr} (hc : Chn E S fs) (hE0 : 0 ≤ E) (hE1 : E < 18446744073709551616) (k : Nat) : rowF E S (outs fs ++ (othF E S k).out) = fs :=
  rowF_outs E fs S _ hc (Fr.out_byt (othF_ok E S k).byt) (othF_stops E S _ k hE0 hE1)
theorem Chn.take {E S : Int} {fs : List Fr} (h : Chn E S fs) (k : Nat) : Chn E S (fs.take k) := fun i f hf => by
  rw [List.getElem?_take] at hf
  split at hf
  · exact h i f hf
  · cases hf
theorem outs_take : ∀ (fs : List Fr) (k : Nat) (rest : List Int), k < fs.length → (outs fs ++ rest).take (fend (fs.take k) + 5) = outs (fs.take k) ++ ((outs (fs.drop k) ++ rest).take 5)
  | [], k, rest, h => by simp at h
  | f :: fs, 0, rest, h => by simp [outs, fend]
  | f :: fs, k + 1, rest, h => by
    have ih := outs_take fs k rest (by simpa using h)
    simp only [List.take_succ_cons, List.drop_succ_cons, fend]
    have e : outs (f :: fs) ++ rest = f.out ++ (outs fs ++ rest) := by simp [outs]
    have e2 : outs (f :: fs.take k) = f.out ++ outs (fs.take k) := by simp [outs]
    rw [e, e2, show 22 + f.b.length + fend (fs.take k) + 5 = f.out.length + (fend (fs.take k) + 5) by rw [f.out_length]; omega, List.take_length_add_append, ih, List.append_assoc]
theorem five_stops (E T : Int) (xs : List Int) (h : xs.length ≤ 5) : ¬ Goes E T xs := by
  intro hg
  have h1 := hg.1
  unfold getF at h1
  split at h1
  · simp at h1
  · split at h1
    · simp at h1
    · split at h1
      · simp at h1
      · omega
theorem back_part {E S : Int} {fs : List Fr} (hc : Chn E S fs) (k : Nat) (hk : k < fs.length) (rest : List Int) (hr : Byt rest) : rowF E S ((outs fs ++ rest).take (fend (fs.take k) + 5)) = fs.take k := by
  rw [outs_take fs k rest hk]
  refine rowF_outs E _ S _ (hc.take k) ?_ (five_stops _ _ _ (by simp; omega))
  intro x hx
  have hx := List.mem_of_mem_take hx
  rcases List.mem_append.1 hx with h1 | h1
  · exact hc.byt x (by
      have : outs fs = outs (fs.take k) ++ outs (fs.drop k) := by unfold outs; rw [← List.flatten_append, ← List.map_append, List.take_append_drop]
      rw [this]; exact List.mem_append.2 (Or.inr h1))
  · exact hr x h1
theorem FsR.take {w : World} {ao : Option Addr} {ys : List El} (h : FsR w ao ys) (k : Nat) : FsR w ao (ys.take k) := fun j x hx => by
  rw [List.getElem?_take] at hx
  split at hx
  · exact h j x hx
  · cases hx
theorem frs_take (l : List El) (k : Nat) : frs (l.take k) = (frs l).take k := by simp [frs]

theorem fend_pre {ls ms : List Fr} (h : ls <+: ms) : fend ls ≤ fend ms := by
  obtain ⟨cs, rfl⟩ := h
  rw [fend_append]
  omega
theorem fend_most : ∀ (fs : List Fr), (∀ f ∈ fs, f.b.length ≤ 32) → fend fs ≤ 54 * fs.length
  | [], _ => by simp [fend]
  | f :: fs, h => by
    have h1 := h f (List.mem_cons_self ..)
    have h2 := fend_most fs (fun g hg => h g (List.mem_cons_of_mem _ hg))
    simp only [fend, List.length_cons]
    omega
/-- A body's bytes stay, where what is written is no block of its own. -/
theorem El.At.other {x : El} {W W' : World} {row : Option Nat} (h : x.At W) (hg : W.grownBy W' row) (hne : ∀ k, row = some k → x.v.ownBlock ≠ some k) : x.At W' := by
  refine ⟨h.own.kept hg ?_, h.top, Nat.le_trans h.size hg.size⟩
  cases hb : x.v.ownBlock with
  | none => exact Or.inl rfl
  | some k => exact Or.inr (fun e => hne k e.symm hb)
/-- Bytes appended to those of all. -/
theorem BkS.appd {w W W' : World} {va vw vp va' : Value} {E S : Int} {pre : List El} {ys : List Int} {m : Nat} (h : BkS w W va vw vp E S pre)
    (ho : W'.ownsRow w.heap.size 5 1 va' (fend (frs pre) + m) ((outs (frs pre)).map (Value.int .u8) ++ ys.map (Value.int .u8))) (hg : W.grownBy W' va.ownBlock) (hw : va'.ownBlock = va.ownBlock ∨ va'.ownBlock = some W.heap.size) :
    ∃ ao cap, va' = .slice ao (fend (frs pre) + m) cap ∧ (At W' ao (outs (frs pre) ++ ys) ∧ (ao = none → fend (frs pre) + m = 0 ∧ cap = 0) ∧ fend (frs pre) + m ≤ cap) ∧ FsAt W' w.heap.size vw pre ∧ W'.ownsRow w.heap.size 3 1 vp pre.length (ints (plc (frs pre))) ∧ w.grownBy W' none ∧
      (∀ k, va'.ownBlock = some k → ∀ y ∈ pre, y.v.ownBlock ≠ some k) := by
  rw [← List.map_append] at ho
  obtain ⟨ao, cap, e, q1, q2, q3, q4, q5, q6⟩ := own_at ho
  refine ⟨ao, cap, e, ⟨q4, q5, q2⟩, ?_, ?_, grown_then h.gr hg (fun j e => Or.inl (h.all.lt j e).1), ?_⟩
  · refine ⟨?_, fun y hy => ⟨(h.want.each y hy).1.other hg (fun k hk => h.dis k hk y hy), (h.want.each y hy).2⟩, h.want.apart⟩
    cases hb : va.ownBlock with
    | none => rw [hb] at hg; exact own_grown h.want.own hg
    | some k => rw [hb] at hg; obtain ⟨c, hc⟩ := own_cells h.all hb; exact own_kept h.want.own hg hc (by decide)
  · cases hb : va.ownBlock with
    | none => rw [hb] at hg; exact own_grown h.pla hg
    | some k => rw [hb] at hg; obtain ⟨c, hc⟩ := own_cells h.all hb; exact own_kept h.pla hg hc (by decide)
  · intro k hk y hy
    rcases hw with h1 | h1
    · exact h.dis k (h1 ▸ hk) y hy
    · intro hyk
      have h2 := (h.want.each y hy).1
      have h3 := h2.top k hyk
      have h4 := h2.size
      rw [h1] at hk
      cases hk
      omega
theorem own_app {W W' : World} {base n size base' n' size' : Nat} {e e' : TypeId} {v u : Value} {xs ys : List Value} (h : W.ownsRow base e size v n xs) (hr : W.ownsRow base' e' size' u n' ys) (hg : W.grownBy W' u.ownBlock) (hne : e' ≠ e) : W'.ownsRow base e size v n xs := by
  cases hb : u.ownBlock with
  | none => rw [hb] at hg; exact own_grown h hg
  | some k => rw [hb] at hg; obtain ⟨c, hc⟩ := own_cells hr hb; exact own_kept h hg hc hne
theorem fs_app {W W' : World} {base base' n' size' : Nat} {e' : TypeId} {v u : Value} {pre : List El} {ys : List Value} (h : FsAt W base v pre) (hr : W.ownsRow base' e' size' u n' ys) (hg : W.grownBy W' u.ownBlock) (h5 : e' ≠ 5) (h25 : e' ≠ 25) : FsAt W' base v pre := by
  cases hb : u.ownBlock with
  | none => rw [hb] at hg; exact h.grown hg
  | some k => rw [hb] at hg; obtain ⟨c, hc⟩ := own_cells hr hb; exact h.kept hg hc h5 h25
theorem box_app {W W' : World} {base' n' size' F : Nat} {e' t : TypeId} {u : Value} {ys : List Value} {c : Array Value} {fr : Nat × Nat} (h : W.heap[F]? = some (.cells c t fr)) (hr : W.ownsRow base' e' size' u n' ys) (hg : W.grownBy W' u.ownBlock) (hne : e' ≠ t) : W'.heap[F]? = some (.cells c t fr) := by
  refine (hg.block F (row_lt h) (fun e => ?_)).trans h
  obtain ⟨c', hc'⟩ := own_cells hr e.symm
  rw [h] at hc'
  simp at hc'
  exact hne hc'.2.1.symm
end Go.Proofs.YtoeehajdmdmemaaDoor
