/- Proved: OctetsReads answers true for all bytes and every script, on every order of evaluation and whatever the capacities drawn; both read behind the call as they did; no condition. -/
import Derived.Test.YtckmghagfaecmaaOpen
import Derived.Test.YtckmghagfaecmaaReads
import Derived.ChangeOld
import Derived.SizedLaws
namespace Go.Proofs.Ytckmghagfaecmaa
open Go.ChangeShapes Go.WideShapes Go.ChangeAt Go.RowKit Go.Deep

theorem reads_own : ownKnob Try.prog.godebug = none := by kernel_rfl
theorem reads_laid : laidOutB Try.prog = true := by kernel_rfl
theorem reads_below {w w' : World} (h : w.grownBy w' none) : Below w.heap.size w w' := ⟨h.os, h.tape, h.output, h.size, fun k hk => h.block k hk (by simp)⟩
theorem Try.bytes5 : Try.prog.bytesOf 5 = 1 := by kernel_rfl
theorem Try.bytes55 : Try.prog.bytesOf 55 = 48 := by kernel_rfl

variable {H : Type} {enc : TypeId × Value → H}

theorem reads_bytes {w : World} {a0 : Option Addr} {len0 cap0 : Nat} {d0 : DataW H} {p0 : List MemPlace} (h0 : DataW.Trod enc Try.prog w 0 (fun _ => true) true 32 (Value.slice a0 len0 cap0) d0 p0)
    (hsz : ∀ elems spare, d0 = .slice elems spare → (elems.length + spare.length) * Try.prog.bytesOf 5 ≤ reachBytes) : ∃ b, b.length = len0 ∧ BAt w a0 cap0 b ∧ Byt b ∧ len0 ≤ 140737488351232 := by
  obtain ⟨fuel, hf⟩ := h0
  obtain ⟨bo, cap, b, hcs, hb, hbb, _⟩ := open_bytes hf
  simp [Value.cells] at hcs
  obtain ⟨rfl, rfl, rfl⟩ := hcs
  refine ⟨b, rfl, hb, hbb, ?_⟩
  rcases open_ints Try.underlying32 Try.underlying5 Try.cells5 hf with ⟨hcs, _⟩ | ⟨a, len, cap, zs, hcs, _, hl, hm, hz, hx, hcell, hwf⟩
  · simp [Value.cells] at hcs
    obtain ⟨_, h2, _⟩ := hcs
    simp [h2]
  · simp [Value.cells] at hcs
    obtain ⟨_, hlen, _⟩ := hcs
    have hd : d0 = .slice (lits .u8 (zs.take len)) (lits .u8 (zs.drop len)) := congrArg Prod.fst hx
    have h1 := hsz _ _ hd
    rw [Try.bytes5] at h1
    simp only [lits, List.length_map, List.length_take, List.length_drop, reachBytes] at h1
    have hzl : len ≤ zs.length := by rw [hz]; split <;> omega
    omega

theorem reads_script {w : World} {a0 : Option Addr} {len0 cap0 : Nat} {d0 : DataW H} {p0 : List MemPlace} (h0 : DataW.Trod enc Try.prog w 0 (fun _ => true) true 49 (Value.slice a0 len0 cap0) d0 p0)
    (hsz : ∀ elems spare, d0 = .slice elems spare → (elems.length + spare.length) * Try.prog.bytesOf 55 ≤ reachBytes) : ∃ os : List OpD, os.length = len0 ∧ OpsAt w a0 os ∧ (∀ o ∈ os, OpOk o) ∧ len0 ≤ 4611686018427387904 := by
  obtain ⟨fuel, hf⟩ := h0
  rcases open_slice Try.underlying49 hf with ⟨hcs, _⟩ | ⟨a, len, cap, m, n, D, Pl, hcs, _, hl, hm, hmm, hx, hel⟩
  · simp [Value.cells] at hcs
    obtain ⟨rfl, rfl, rfl⟩ := hcs
    exact ⟨[], rfl, (fun j o h => by simp at h), (fun o h => by cases h), by omega⟩
  · simp [Value.cells] at hcs
    obtain ⟨rfl, rfl, rfl⟩ := hcs
    have hlm : len0 ≤ m := by rw [hmm]; split <;> omega
    rw [Try.cells55] at hel
    obtain ⟨os, h1, h2, h3, _⟩ := open_steps (len := len0) (fun i hi => hel i (by omega))
    have hd : d0 = .slice ((List.range len0).map D) ((List.range (m - len0)).map fun j => D (len0 + j)) := congrArg Prod.fst hx
    have h4 := hsz _ _ hd
    rw [Try.bytes55] at h4
    simp only [List.length_map, List.length_range, reachBytes] at h4
    exact ⟨os, h1, h2, h3, by omega⟩

set_option maxRecDepth 100000 in
theorem reads_lifted (os : Os) (started : os.Started) (H : Type) (enc : TypeId × Value → H) :
    ReturnsInHanded {} Try.checked os 5 .any (Rows.octetsReadsSpec.pre6 enc Try.prog Try.f5 Rows.octetsReadsRow.domain false) (Rows.octetsReadsSpec.post enc Try.prog Try.f5 false true false false) := by
  refine returnsInHanded_of_change_sized (C := Try.checked) reads_own started (by kernel_rfl) Try.func5
    (ChangeSpec.witness6 (enc := enc) (C := Try.checked) false ⟨#[], #[.slice none 0 0, .slice none 0 0], []⟩ 8 (by kernel_rfl) (by kernel_rfl) (by kernel_rfl) (by kernel_rfl)) ?_
  intro W base args ds gs before hval0 hW hcnd hsz0 _
  have hval : ∀ (j : Nat) t v, Try.f5.params[j]? = some t → args[j]? = some v → Value.okWide Try.prog W .any base t v := hval0
  have hsz : (DataW.weightsEach Try.prog (Try.f5.params.toList ++ Rows.octetsReadsSpec.plain.varTypes Try.prog) (ds ++ gs)).all (· ≤ reachBytes) = true := hsz0
  have hW' := hW
  obtain ⟨p, q, hA0, hV, rfl, hfz, hnd⟩ := hW
  have hA : DataW.TrodAll enc Try.prog W 0 (fun _ => true) true Try.f5.params.toList args.toList ds p := hA0
  rw [Try.params5] at hA hval hsz
  obtain ⟨v0, v1, d0, d1, p0, p1, hargs, rfl, rfl, h0, h1⟩ := trodAll_two hA
  obtain rfl : args = #[v0, v1] := by cases args; simp_all
  obtain ⟨rfl, rfl⟩ := trodVars_none hV
  obtain ⟨a0, len0, cap0, rfl⟩ := okWide_slice Try.underlying32 (hval 0 32 v0 rfl rfl)
  obtain ⟨a1, len1, cap1, rfl⟩ := okWide_slice Try.underlying49 (hval 1 49 v1 rfl rfl)
  have k0 := h0
  have k1 := h1
  have lt0 : ∀ x ∈ p0, x.block < W.heap.size := by obtain ⟨m, hm⟩ := k0; exact DataW.trod_lt m _ _ _ hm
  have lt1 : ∀ x ∈ p1, x.block < W.heap.size := by obtain ⟨m, hm⟩ := k1; exact DataW.trod_lt m _ _ _ hm
  obtain ⟨b, hb1, hb2, hb3, hb4⟩ := reads_bytes h0 (fun elems spare hd => sized_slice hsz (j := 0) (t := 32) (e := 5) rfl (by rw [hd]; rfl) Try.underlying32)
  obtain ⟨ops, ho1, ho2, ho3, ho4⟩ := reads_script h1 (fun elems spare hd => sized_slice hsz (j := 1) (t := 49) (e := 55) rfl (by rw [hd]; rfl) Try.underlying49)
  clear hA0 hval0 hsz0
  refine (reads_any a0 len0 cap0 b a1 len1 cap1 ops W hb1 hb2 hb3 (by omega) ho1 ho2 ho3 ho4).mono fun e W' ⟨he, hg⟩ => ?_
  subst he
  have bel := reads_below hg
  exact ⟨_, rfl, _, _, _, [], _, [], hW', trodAll_mk1 (shut_bool Try.underlying4 _), trodAll_mk2 (Below.trod reads_laid (by kernel_rfl) (of_decide_eq_true (by kernel_rfl)) k0 bel lt0) (Below.trod reads_laid (by kernel_rfl) (of_decide_eq_true (by kernel_rfl)) k1 bel lt1), rfl, bel.frame _, fun h => by cases h⟩

theorem reads_holds : Rows.OctetsReadsSaid :=
  OpenClaim.holds_of_wide 5 Try.f5 rfl rfl rfl rfl rfl rfl rfl ⟨rfl, rfl, rfl, rfl, rfl⟩ rfl rfl rfl rfl rfl (by kernel_rfl) Try.func5 (by kernel_rfl)
    (of_decide_eq_true (by kernel_rfl)) (by unfold Func.isWrapper; first | (rw [if_pos (by decide +kernel)]; kernel_rfl) | (rw [if_neg (by decide +kernel)]; exact ⟨rfl, rfl⟩))
    (fun os started H enc _ => reads_lifted os started H enc)
#print axioms reads_holds
end Go.Proofs.Ytckmghagfaecmaa
