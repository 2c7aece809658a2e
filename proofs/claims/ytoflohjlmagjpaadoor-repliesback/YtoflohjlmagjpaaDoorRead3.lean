/- The contracts of a Reader's calls: numbers, Take, Left, Err, End; of Of. -/
import Derived.Test.YtoflohjlmagjpaaDoorRead2
namespace Go.Proofs.YtoflohjlmagjpaaDoor
open Go.RowKit

theorem own_base {w : World} {base base' n : Nat} {v : Value} {xs : List Value} {e : TypeId} {size : Nat} (h : w.ownsRow base' e size v n xs) (hb : base ≤ base') : w.ownsRow base e size v n xs := by
  obtain ⟨h1, h2⟩ := h
  refine ⟨h1, ?_⟩
  rcases h2 with h2 | ⟨g, cap, cur, hv, hg, r⟩
  · exact Or.inl h2
  · exact Or.inr ⟨g, cap, cur, hv, Nat.le_trans hb hg, r⟩

theorem takeF_bytes {xs : List Int} (h : Byt xs) (e n : Int) : Byt (takeF xs e n).1 ∧ Byt (takeF xs e n).2.1 := by
  refine ⟨fun x hx => h x ((takeF_given xs e n).2 x hx), ?_⟩
  unfold takeF
  split
  · exact h
  · split
    · intro x hx; cases hx
    · split
      · intro x hx; cases hx
      · exact h.drop _

theorem takeF_value {xs : List Int} (h : Byt xs) (e : Int) (k : Nat) : 0 ≤ leV (takeF xs e k).1 ∧ leV (takeF xs e k).1 < 2 ^ (8 * k) := by
  have h1 := leV_bound _ (takeF_bytes h e k).1
  have h2 := (takeF_given xs e k).1
  refine ⟨h1.1, Int.lt_of_lt_of_le h1.2 ?_⟩
  have h3 : (takeF xs e k).1.length ≤ k := by omega
  have h4 : (2 : Nat) ^ (8 * (takeF xs e k).1.length) ≤ 2 ^ (8 * k) := Nat.pow_le_pow_right (by omega) (by omega)
  have h5 : ((2 ^ (8 * (takeF xs e k).1.length) : Nat) : Int) ≤ ((2 ^ (8 * k) : Nat) : Int) := Int.ofNat_le.2 h4
  simpa using h5

set_option maxHeartbeats 400000 in
theorem rbyte_any (b : Nat) (xs : List Int) (e : Int) (w : World) (hR : RdAt w b xs e) (hB : Byt xs) :
    Calls Tryd.prog 66 #[.pointer (some ⟨b, 0, none⟩)] w fun r w' => r = .returned (.int .u8 (leV (takeF xs e 1).1)) ∧ RdAt w' b (takeF xs e 1).2.1 (takeF xs e 1).2.2 ∧ w.grownBy w' (some b) := by
  have hv := takeF_value hB e 1
  have hr := rnum_any b xs e 1 1 w hR hB rfl (by omega)
  simp only [show (((1 : Nat) : Int)) = 1 from rfl] at hv
  have hv1 : leV (takeF xs e 1).1 < 256 := hv.2
  have hv0 := hv.1
  clear hv
  generalize leV (takeF xs e 1).1 = V at *
  have HR := hide hr
  clear hr
  go_enter Tryd.func66, Tryd.ntmps66
  go_wp2_with fail
  refine HR.out.mono ?_
  rintro e1 w1 ⟨rfl, hR', hg⟩
  go_wp2
  go_ret
  exact ⟨rfl, hR', hg⟩
set_option maxHeartbeats 400000 in
theorem rtwo_any (b : Nat) (xs : List Int) (e : Int) (w : World) (hR : RdAt w b xs e) (hB : Byt xs) :
    Calls Tryd.prog 67 #[.pointer (some ⟨b, 0, none⟩)] w fun r w' => r = .returned (.int .u16 (leV (takeF xs e 2).1)) ∧ RdAt w' b (takeF xs e 2).2.1 (takeF xs e 2).2.2 ∧ w.grownBy w' (some b) := by
  have hv := takeF_value hB e 2
  have hr := rnum_any b xs e 2 2 w hR hB rfl (by omega)
  simp only [show (((2 : Nat) : Int)) = 2 from rfl] at hv
  have hv1 : leV (takeF xs e 2).1 < 65536 := hv.2
  have hv0 := hv.1
  clear hv
  generalize leV (takeF xs e 2).1 = V at *
  have HR := hide hr
  clear hr
  go_enter Tryd.func67, Tryd.ntmps67
  go_wp2_with fail
  refine HR.out.mono ?_
  rintro e1 w1 ⟨rfl, hR', hg⟩
  go_wp2
  go_ret
  exact ⟨rfl, hR', hg⟩
set_option maxHeartbeats 400000 in
theorem rfour_any (b : Nat) (xs : List Int) (e : Int) (w : World) (hR : RdAt w b xs e) (hB : Byt xs) :
    Calls Tryd.prog 65 #[.pointer (some ⟨b, 0, none⟩)] w fun r w' => r = .returned (.int .u32 (leV (takeF xs e 4).1)) ∧ RdAt w' b (takeF xs e 4).2.1 (takeF xs e 4).2.2 ∧ w.grownBy w' (some b) := by
  have hv := takeF_value hB e 4
  have hr := rnum_any b xs e 4 4 w hR hB rfl (by omega)
  simp only [show (((4 : Nat) : Int)) = 4 from rfl] at hv
  have hv1 : leV (takeF xs e 4).1 < 4294967296 := hv.2
  have hv0 := hv.1
  clear hv
  generalize leV (takeF xs e 4).1 = V at *
  have HR := hide hr
  clear hr
  go_enter Tryd.func65, Tryd.ntmps65
  go_wp2_with fail
  refine HR.out.mono ?_
  rintro e1 w1 ⟨rfl, hR', hg⟩
  go_wp2
  go_ret
  exact ⟨rfl, hR', hg⟩
set_option maxHeartbeats 400000 in
theorem reight_any (b : Nat) (xs : List Int) (e : Int) (w : World) (hR : RdAt w b xs e) (hB : Byt xs) :
    Calls Tryd.prog 68 #[.pointer (some ⟨b, 0, none⟩)] w fun r w' => r = .returned (.int .u64 (leV (takeF xs e 8).1)) ∧ RdAt w' b (takeF xs e 8).2.1 (takeF xs e 8).2.2 ∧ w.grownBy w' (some b) := by
  have hv := takeF_value hB e 8
  have hr := rnum_any b xs e 8 8 w hR hB rfl (by omega)
  simp only [show (((8 : Nat) : Int)) = 8 from rfl] at hv
  have hv1 : leV (takeF xs e 8).1 < 18446744073709551616 := hv.2
  have hv0 := hv.1
  clear hv
  generalize leV (takeF xs e 8).1 = V at *
  have HR := hide hr
  clear hr
  go_enter Tryd.func68, Tryd.ntmps68
  go_wp2_with fail
  refine HR.out.mono ?_
  rintro e1 w1 ⟨rfl, hR', hg⟩
  go_wp2
  go_ret
  exact ⟨rfl, hR', hg⟩
set_option maxHeartbeats 400000 in
theorem err_any (b : Nat) (xs : List Int) (e : Int) (w : World) (hR : RdAt w b xs e) :
    Calls Tryd.prog 69 #[.pointer (some ⟨b, 0, none⟩)] w fun r w' => r = .returned (.int .i64 e) ∧ w' = w := by
  have c1 := hR.err
  have hm := hR.made
  go_enter Tryd.func69, Tryd.ntmps69
  go_wp2_with (first | (go_at_call 90; refine (isNone_at b true _ hm).mono ?_; rintro e1 w' ⟨rfl, rfl⟩) | go_in)
  go_ret
  exact ⟨rfl, rfl⟩
/-- What End answers. -/
def endF (xs : List Int) (e : Int) : Int := if e ≠ 0 then e else if xs = [] then 0 else 5
set_option maxHeartbeats 400000 in
theorem end_any (b : Nat) (xs : List Int) (e : Int) (w : World) (hR : RdAt w b xs e) :
    Calls Tryd.prog 35 #[.pointer (some ⟨b, 0, none⟩)] w fun r w' => r = .returned (.int .i64 (endF xs e)) ∧ w' = w := by
  obtain ⟨ao, cap, c0⟩ := hR.rest
  by_cases he : e = 0
  · subst he
    cases xs with
    | nil =>
      simp only [List.length_nil] at c0
      go_enter Tryd.func35, Tryd.ntmps35
      go_wp2_with (first | (go_at_call 69; refine (err_any b [] 0 _ hR).mono ?_; rintro e1 w' ⟨rfl, rfl⟩) | go_in)
      go_ret
      exact ⟨rfl, rfl⟩
    | cons x xs =>
      simp only [List.length_cons] at c0
      have hp : (0 : Int) < ((xs.length + 1 : Nat) : Int) := by omega
      go_enter Tryd.func35, Tryd.ntmps35
      go_wp2_with (first | (go_at_call 69; refine (err_any b (x :: xs) 0 _ hR).mono ?_; rintro e1 w' ⟨rfl, rfl⟩) | go_in)
      go_ret
      exact ⟨rfl, rfl⟩
  · have HE : Hid (endF xs e = e) := by show _ = _; simp [endF, he]
    have he' : (e == 0) = false := beq_eq_false_iff_ne.2 he
    go_enter Tryd.func35, Tryd.ntmps35
    go_wp2_with (first | (go_at_call 69; refine (err_any b xs e _ hR).mono ?_; rintro e1 w' ⟨rfl, rfl⟩) | go_in)
    go_ret
    rw [HE.out]
    exact ⟨rfl, rfl⟩

set_option maxHeartbeats 400000 in
theorem of_any (ao : Option Addr) (n cap : Nat) (xs : List Int) (w : World) (hn : xs.length = n) (hat : At w ao xs) (hnil : ao = none → n = 0 ∧ cap = 0) (hb : n ≤ 140737488355328) :
    Calls Tryd.prog 33 #[.slice ao n cap] w fun r w' => ∃ B, r = .returned (.pointer (some ⟨B, 0, none⟩)) ∧ w.heap.size ≤ B ∧ RdAt w' B xs 0 ∧ w.grownBy w' none := by
  have Hn := hide hn
  clear hn
  go_enter Tryd.func33, Tryd.ntmps33
  go_wp2_with fail
  refine (clone_any ao n cap xs _ Hn.out hat hnil hb).mono ?_
  rintro e1 w1 ⟨v, rfl, hown, hg⟩
  obtain ⟨ao', cap', rfl, hl, hnc, hcm, hat', hnil', h5⟩ := own_at hown
  have H := hide (And.intro hl (And.intro hnc (And.intro hcm (And.intro hat' (And.intro hnil' (And.intro h5 hg))))))
  clear hl hnc hcm hat' hnil' h5 hg hown
  go_wp2
  go_ret
  obtain ⟨hl, hnc, hcm, hat', hnil', h5, hg⟩ := H.out
  have hga := World.grownBy_alloc w1 (.cells (rrow ao' xs.length cap' 0).toArray 119) none
  refine ⟨w1.heap.size, rfl, hg.size, ⟨ao', cap', ?_, by omega, hcm, ?_, ?_, fun e => (hnil' e).2, fun h => absurd rfl h, ?_⟩, ?_⟩
  · rw [hl]; exact heap_alloc_new w1 _
  · rw [← hl]; exact hat'.kept hga (by simp)
  · intro a ha e; have := (h5 a ha).2.1; omega
  · intro a ha
    obtain ⟨_, hlt, c, hc⟩ := h5 a ha
    exact ⟨c, (Below.heap_alloc _ _ _ hlt).trans hc⟩
  · exact grown_trans hg (World.grownBy_alloc w1 _ _)
end Go.Proofs.YtoflohjlmagjpaaDoor
