/- A heap alone, behind so many steps: what the rest of HeapAll knows of it. -/
import Derived.Test.YtkbhjdjdjfdikaaRl
namespace Go.Proofs.Ytkbhjdjdjfdikaa
open Go.RowKit Ap Go.Shelf
attribute [local go_sem ↓] Go.wp_at_zero Go.wp_at_succ
section
variable {w w' : World} {L : Les} {p : Hp} {E : List (Nat × Int)} {T : List Nat} {N B : Nat}
/-- Drop takes no new block. -/
theorem HS.out_own (hL : L.Ok) (h : HS w L p E T N B) (hE : E.length ≤ 65536) (hN : N ≤ 100000000) (hB : B ≤ 100000000) (i : Nat) (hi : i < E.length) :
    Calls Try.prog 47 #[.pointer (some ⟨p.h, 0, none⟩), .int .i64 (i : Int)] w fun e w' => e = .returned (.tuple #[]) ∧ ∃ q T', HS w' L q (outE E i) T' N (B + 1) ∧ Hst w w' L p q ∧ (∀ j, q.own j → p.own j) := by
  refine (takeOut_any hL h.at_ h.good h.hds (by omega) (by omega) (by omega) i hi h.ok).mono ?_
  rintro e w' ⟨rfl, q, h1, h2, h3, h4⟩
  refine ⟨rfl, q, _, ⟨h1, h.good.out hi, h.hds.out hi, ?_⟩, ⟨h2, h3, fun j e => .inl (h4 j e)⟩, h4⟩
  intro e he
  have h1 : e ∈ E.set i (en E (E.length - 1)) := List.mem_of_mem_take he
  rcases List.mem_or_eq_of_mem_set h1 with h2 | h2
  · exact h.ok e h2
  · rw [h2]; exact h.ok _ (en_mem (by omega))
set_option maxRecDepth 20000 in
set_option maxHeartbeats 4000000 in
theorem drop_own (hL : L.Ok) (h : HS w L p E T N B) (hE : E.length ≤ 65536) (hN : N ≤ 100000000) (hB : B ≤ 100000000) (x : Int) (hx : (Lit.int .i64 x).wf = true) :
    Calls Try.prog 19 #[.pointer (some ⟨p.h, 0, none⟩), .int .i64 x] w fun e w' => e = .returned (.bool (fi E x).isSome) ∧ ∃ q T', HS w' L q ((fi E x).elim E fun i => outE E i) T' N (B + 1) ∧ Hst w w' L p q ∧ (∀ j, q.own j → p.own j) := by
  have hf := find_at h.at_ x hx
  cases hx2 : fi E x with
  | none =>
    rw [hx2] at hf
    simp only [Option.getD, Option.isSome] at hf
    have HH := hide h
    clear h
    go_enter Try.func19, Try.ntmps19
    go_wp2_with fail
    refine hf.mono ?_
    rintro e w1 ⟨rfl, hw1⟩
    obtain rfl := hw1.symm
    go_wp2
    go_ret
    exact ⟨rfl, p, T, HH.out.mono (Nat.le_succ _), Hst.refl _ _ _, fun _ e => e⟩
  | some i =>
    rw [hx2] at hf
    simp only [Option.getD, Option.isSome] at hf
    have hi := (fi_lt hx2).1
    have ho := h.out_own hL hE hN hB i hi
    clear h hx2
    go_enter Try.func19, Try.ntmps19
    go_wp2_with fail
    refine hf.mono ?_
    rintro e w1 ⟨rfl, hw1⟩
    obtain rfl := hw1.symm
    go_wp2_with fail
    refine ho.mono ?_
    clear ho hf
    rintro e w8 ⟨rfl, hA8⟩
    have H8 := hide hA8
    clear hA8
    go_wp2
    go_ret
    exact ⟨rfl, H8.out⟩
end
/-- A heap of kind k at h, its less at b, behind at most n steps, all of it within S. -/
def Hq (w : World) (k : Int) (h b n : Nat) (S : Nat → Prop) : Prop := ∃ p E T N B, p.h = h ∧ HS w (lsK k b) p E T N B ∧ E.length ≤ n ∧ N ≤ n ∧ B ≤ n ∧ (∀ j, p.own j ∨ j = b ↔ S j)
section
variable {w0 w w' : World} {k : Int} {h r b n : Nat} {S S2 : Nat → Prop}
theorem Hq.lt (t : Hq w k h b n S) : ∀ j, S j → j < w.heap.size := by
  obtain ⟨p, E, T, N, B, -, s, -, -, -, hS⟩ := t
  intro j e
  rcases (hS j).2 e with e | rfl
  · exact s.at_.lt j e
  · exact row_lt s.at_.inv
theorem Hq.mono (t : Hq w k h b n S) {m : Nat} (hm : n ≤ m) : Hq w k h b m S := by
  obtain ⟨p, E, T, N, B, e, s, h1, h2, h3, hS⟩ := t
  exact ⟨p, E, T, N, B, e, s, by omega, by omega, by omega, hS⟩
theorem Hq.far (t : Hq w k h b n S) (hk : Kept w w' S2) (hS2 : ∀ j, S j → ¬ S2 j) : Hq w' k h b n S := by
  obtain ⟨p, E, T, N, B, e, s, h1, h2, h3, hS⟩ := t
  exact ⟨p, E, T, N, B, e, ⟨s.at_.far hk (fun j e => hS2 j ((hS j).1 (.inl e))) (hk.at s.at_.inv (hS2 b ((hS b).1 (.inr rfl)))), s.good, s.hds, s.ok⟩, h1, h2, h3, hS⟩
theorem Hq.then (t : Hq w k h b n S) (hg : w.grownBy w' none) : Hq w' k h b n S := t.far (Kept.new hg (fun _ => False)) (fun _ _ e => e)
theorem Hq.next {p q : Hp} {E' : List (Nat × Int)} {T' : List Nat} {N' B' m : Nat} (hS : ∀ j, p.own j ∨ j = b ↔ S j) (hh : p.h = h) (s : HS w' (lsK k b) q E' T' N' B') (st : Hst w w' (lsK k b) p q) (h1 : E'.length ≤ m) (h2 : N' ≤ m) (h3 : B' ≤ m) :
    ∃ S', Hq w' k h b m S' ∧ Kept w w' S ∧ (∀ j, S' j → S j ∨ w.heap.size ≤ j) := by
  refine ⟨fun j => q.own j ∨ j = b, ⟨q, E', T', N', B', st.h.trans hh, s, h1, h2, h3, fun _ => Iff.rfl⟩, st.kept.mono (fun j _ e => e.elim (fun x => x.elim) (fun e => (hS j).1 (.inl e))), ?_⟩
  rintro j (e | rfl)
  · exact (st.own j e).imp (fun e => (hS j).1 (.inl e)) id
  · exact .inl ((hS _).1 (.inr rfl))
theorem Hq.pop (t : Hq w k h b n S) (hn : n ≤ 50000) : Calls Try.prog 16 #[.pointer (some ⟨h, 0, none⟩)] w fun e w' => ∃ v, e = .returned v ∧ ∃ S', Hq w' k h b (n + 1) S' ∧ Kept w w' S ∧ (∀ j, S' j → S j ∨ w.heap.size ≤ j) := by
  obtain ⟨p, E, T, N, B, rfl, s, h1, h2, h3, hS⟩ := t
  refine (pop_any (lsK_ok k b) s (by omega) (by omega) (by omega)).mono ?_
  rintro e w' ⟨rfl, q, T', s', st⟩
  refine ⟨_, rfl, Hq.next hS rfl s' st ?_ (by omega) (by omega)⟩
  split
  · have : (outE E (tn T 0)).length ≤ E.length := by unfold outE; simp
    omega
  · omega
theorem Hq.push (t : Hq w k h b n S) (hn : n ≤ 50000) (v : Int) (hv : I64 v) : Calls Try.prog 17 #[.pointer (some ⟨h, 0, none⟩), .int .i64 v] w fun e w' => ∃ v, e = .returned v ∧ ∃ S', Hq w' k h b (n + 1) S' ∧ Kept w w' S ∧ (∀ j, S' j → S j ∨ w.heap.size ≤ j) := by
  obtain ⟨p, E, T, N, B, rfl, s, h1, h2, h3, hS⟩ := t
  refine (push_any (lsK_ok k b) s (by omega) (by omega) (by omega) v hv).mono ?_
  rintro e w' ⟨rfl, q, T', s', st⟩
  exact ⟨_, rfl, Hq.next hS rfl s' st (by simp; omega) (by omega) (by omega)⟩
theorem Hq.set (t : Hq w k h b n S) (hn : n ≤ 50000) (x v : Int) (hx : I64 x) (hv : I64 v) : Calls Try.prog 18 #[.pointer (some ⟨h, 0, none⟩), .int .i64 x, .int .i64 v] w fun e w' => ∃ v, e = .returned v ∧ ∃ S', Hq w' k h b n S' ∧ Kept w w' S ∧ (∀ j, S' j → S j ∨ w.heap.size ≤ j) := by
  obtain ⟨p, E, T, N, B, rfl, s, h1, h2, h3, hS⟩ := t
  refine (set_any (lsK_ok k b) s (by omega) x v (wf_i64 hx.1 hx.2) hv).mono ?_
  rintro e w' ⟨rfl, T', s', st⟩
  refine ⟨_, rfl, Hq.next hS rfl s' st ?_ (by omega) (by omega)⟩
  cases fi E x with
  | none => exact h1
  | some i => show (setI E i v).length ≤ n; rw [setI_length]; exact h1
/-- Drop: what is its own stays within what was. -/
theorem Hq.drop (t : Hq w k h b n S) (hn : n ≤ 50000) (x : Int) (hx : I64 x) : Calls Try.prog 19 #[.pointer (some ⟨h, 0, none⟩), .int .i64 x] w fun e w' => ∃ v, e = .returned v ∧ ∃ S', Hq w' k h b (n + 1) S' ∧ Kept w w' S ∧ (∀ j, S' j → S j) := by
  obtain ⟨p, E, T, N, B, rfl, s, h1, h2, h3, hS⟩ := t
  refine (drop_own (lsK_ok k b) s (by omega) (by omega) (by omega) x (wf_i64 hx.1 hx.2)).mono ?_
  rintro e w' ⟨rfl, q, T', s', st, ho⟩
  refine ⟨_, rfl, fun j => q.own j ∨ j = b, ⟨q, _, T', _, _, st.h, s', ?_, by omega, by omega, fun _ => Iff.rfl⟩, st.kept.mono (fun j _ e => e.elim (fun x => x.elim) (fun e => (hS j).1 (.inl e))), fun j e => (hS j).1 (e.imp (ho j) id)⟩
  cases fi E x with
  | none => show E.length ≤ n + 1; omega
  | some i => 
    show (outE E i).length ≤ n + 1
    have : (outE E i).length ≤ E.length := by unfold outE; simp
    omega
/-- A pair holds a heap. -/
theorem Pa.hq {n : Nat} (t : Pa w0 w k h r b n S) : ∃ S', Hq w k h b n S' ∧ (∀ j, S' j → S j) := by
  obtain ⟨p, vl, E, X, N, B, e, t, s, h1, h2, h3, hS⟩ := t
  obtain ⟨T, hs⟩ := t.hs
  exact ⟨fun j => p.own j ∨ j = b, ⟨p, E, T, N, B, e, hs, h1, h2, h3, fun _ => Iff.rfl⟩, fun j e => (hS j).1 (e.imp .inl id)⟩
end
end Go.Proofs.Ytkbhjdjdjfdikaa
