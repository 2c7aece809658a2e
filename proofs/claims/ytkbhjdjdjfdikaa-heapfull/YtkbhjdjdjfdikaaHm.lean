/- A heap that is filled. -/
import Derived.Test.YtkbhjdjdjfdikaaHl
namespace Go.Proofs.Ytkbhjdjdjfdikaa
open Go.RowKit Ap
attribute [local go_sem ↓] Go.wp_at_zero Go.wp_at_succ
/-- The handles are the places. -/
def Row (E : List (Nat × Int)) : Prop := ∀ j, j < E.length → (en E j).1 = j
theorem Row.push {E : List (Nat × Int)} (h : Row E) (v : Int) : Row (E ++ [(E.length, v)]) := by
  intro j hj
  simp at hj
  by_cases h1 : j < E.length
  · rw [en_append_left h1]; exact h j h1
  · have : j = E.length := by omega
    subst this
    simp [en]
theorem Row.fi {E : List (Nat × Int)} (h : Row E) {x : Nat} (hx : x < E.length) : fi E (x : Int) = some x := by
  have hd : Hds E E.length := ⟨fun i j hi hj e => by rw [h i hi, h j hj] at e; exact e, fun i hi => by rw [h i hi]; exact hi⟩
  exact fi_some hd hx (by rw [h x hx])
theorem last_get {E : List (Nat × Int)} {N : Nat} (hd : Hds E N) (v : Int) : fi (E ++ [(N, v)]) (N : Int) = some E.length ∧ (en (E ++ [(N, v)]) E.length).2 = v := by
  have hn : en (E ++ [(N, v)]) E.length = (N, v) := by simp [en]
  exact ⟨fi_some (hd.push v) (by simp) (by rw [hn]), by rw [hn]⟩
set_option maxRecDepth 200000 in
set_option maxHeartbeats 4000000 in
theorem full_any (kd : Int) (n : Nat) (hn : n ≤ 65535) (w : World) : Calls Try.prog 20 #[.int .i64 kd, .int .i64 (n : Int)] w fun e w' => e = .returned (.bool true) ∧ w.grownBy w' none := by
  have ho := orders_any kd w
  generalize kd % 7 = kk at *
  obtain ⟨L, hLd⟩ : ∃ L, L = lsK kk w.heap.size := ⟨_, rfl⟩
  have hL : L.Ok := by rw [hLd]; exact lsK_ok _ _
  have hok : ∀ x, I64 x → L.ok x := by rw [hLd]; exact fun x h => h
  have hS : ∀ j, L.S j → w.heap.size ≤ j := by rw [hLd]; exact fun j h => h.elim
  rw [← hLd] at ho
  have HL := hide (And.intro hL (And.intro hok hS))
  clear hLd hL hok hS
  have hfv : L.fv = .func (.func L.k) #[] L.cap := rfl
  rw [hfv] at ho
  generalize decide (kk < 4) = od at *
  go_enter Try.func20, Try.ntmps20
  go_wp2_with fail
  refine ho.mono ?_
  clear ho
  rintro e w1 ⟨rfl, hI1, g1⟩
  have hnew := ho_new (w := w1) HL.out.1 hI1 g1 HL.out.2.2
  rw [hfv] at hnew
  clear g1 hI1 hfv
  go_wp2_with fail
  refine hnew.mono ?_
  clear hnew
  rintro e w2 ⟨h, rfl, h2⟩
  have H2 := hide h2
  clear h2
  go_wp2
  go_loopg [8] 65536 (fun q v wr => ∃ i : Nat, v = .int .i64 (i : Int) ∧ q = 65536 - i ∧ i ≤ 65536 ∧ Hid (∃ E, E.length = i ∧ Row E ∧ HO w wr L h E i i))
  case atStart => exact ⟨0, rfl, rfl, by omega, [], rfl, fun j hj => by simp at hj, H2.out⟩
  case round =>
    obtain ⟨i, rfl, hq, hi, HE⟩ := hrel
    have HQ := hide hq
    clear hq
    obtain ⟨E, hE1, hE2, hE3⟩ := HE.out
    by_cases hlt : i < 65536
    · have hpk := pick_any ((i : Int) * 7919 + (n : Int)) 9000 9000 wr rfl (by omega) (by omega)
      have hr0 : 0 ≤ ((i : Int) * 7919 + (n : Int)) % 9000 := Int.emod_nonneg _ (by decide)
      have hr1 : ((i : Int) * 7919 + (n : Int)) % 9000 < 9000 := Int.emod_lt_of_pos _ (by decide)
      rw [show (((9000 : Nat) : Int)) = 9000 from rfl] at hpk
      obtain ⟨r, hrd⟩ : ∃ r, r = ((i : Int) * 7919 + (n : Int)) % 9000 := ⟨_, rfl⟩
      rw [← hrd] at hpk hr0 hr1
      clear hrd
      have hpu := ho_push HL.out.1 hE3 (by omega) (by omega) (by omega) r (HL.out.2.1 r (by unfold I64; omega))
      have HF := hide (And.intro hE1 (hE2.push r))
      clear hE1 hE2 hE3 HE hi hr0 hr1
      have hd1 : ((i : Int) < 65536) = True := by simp; omega
      have hw1 : IntKind.i64.wrap ((i : Int) * 7919) = (i : Int) * 7919 := by rw [IntKind.wrap_i64]; omega
      have hw2 : IntKind.i64.wrap ((i : Int) * 7919 + (n : Int)) = (i : Int) * 7919 + (n : Int) := by rw [IntKind.wrap_i64]; omega
      have hw3 : IntKind.i64.wrap ((i : Int) + 1) = (i : Int) + 1 := by rw [IntKind.wrap_i64]; omega
      have HLT := hide (And.intro hlt hn)
      clear hlt hn
      go_wp2_with fail
      refine hpk.mono ?_
      clear hpk
      rintro e w3 ⟨rfl, hw3⟩
      obtain rfl := hw3.symm
      go_wp2_with fail
      refine hpu.mono ?_
      clear hpu
      rintro e w4 ⟨rfl, h4⟩
      have H4 := hide h4
      clear h4
      go_wp2
      go_roundg (65536 - (i + 1))
      case measure => have := HQ.out; have := HLT.out.1; omega
      case rel =>
        refine ⟨i + 1, by simp, rfl, by have := HLT.out.1; omega, E ++ [(i, r)], by rw [List.length_append, HF.out.1]; rfl, ?_, H4.out⟩
        have := HF.out.2
        rw [HF.out.1] at this
        exact this
    · obtain rfl : i = 65536 := by omega
      have hfl := ho_full hE3 hE1 (-1)
      have hln := ho_len hE3
      rw [hE1] at hln
      have hpk := pick_any (n : Int) 65536 65536 wr rfl (by omega) (by omega)
      rw [show (n : Int) % ((65536 : Nat) : Int) = (n : Int) from Int.emod_eq_of_lt (by omega) (by omega)] at hpk
      have hf1 := hE2.fi (x := n) (by omega)
      have hse := ho_set HL.out.1 hE3 (by omega) (n : Int) (-2) (by unfold I64; omega) (HL.out.2.1 (-2) (by unfold I64; omega))
      rw [hf1] at hse
      simp only [Option.isSome, Option.elim] at hse
      obtain ⟨p0, T0, -, hs0, -⟩ := hE3.hs
      have hf2 : fi (setI E n (-2)) (n : Int) = some n := by rw [fi_setI hs0.hds (by omega)]; exact hf1
      have hlen1 : (setI E n (-2)).length = 65536 := by rw [setI_length, hE1]
      have hlen2 : (outE (setI E n (-2)) n).length = 65535 := by rw [outE_length, hlen1]
      have HH := hide (And.intro hf2 (And.intro hlen1 hlen2))
      clear hE1 hE2 hE3 HE hf1 hf2 hlen1 hlen2 hs0 p0 T0
      generalize hE5 : setI E n (-2) = E1 at *
      clear hE5
      go_wp2_with fail
      refine hfl.mono ?_
      clear hfl
      rintro e w3 ⟨rfl, hw3⟩
      obtain rfl := hw3.symm
      rw [show (((65536 : Nat) : Int)) = 65536 from rfl] at hln
      go_wp2_with fail
      refine hln.mono ?_
      clear hln
      rintro e w4 ⟨rfl, hw4⟩
      obtain rfl := hw4.symm
      go_wp2_with fail
      refine hpk.mono ?_
      clear hpk
      rintro e w5 ⟨rfl, hw5⟩
      obtain rfl := hw5.symm
      go_wp2_with fail
      refine hse.mono ?_
      clear hse
      rintro e w6 ⟨rfl, h6⟩
      have hdr := ho_drop HL.out.1 h6 (by rw [HH.out.2.1]; omega) (by omega) (by omega) (n : Int) (by unfold I64; omega)
      rw [HH.out.1] at hdr
      simp only [Option.isSome, Option.elim] at hdr
      clear h6
      go_wp2_with fail
      refine hdr.mono ?_
      clear hdr
      rintro e w7 ⟨rfl, h7⟩
      have hp8 := ho_push HL.out.1 h7 (by rw [HH.out.2.2]; omega) (by omega) (by omega) (-1) (HL.out.2.1 (-1) (by unfold I64; omega))
      obtain ⟨p0, T0, -, hs0, -⟩ := h7.hs
      have hlg := last_get hs0.hds (-1)
      have HG := hide hlg
      clear h7 hlg hs0 p0 T0
      rw [show (((65536 : Nat) : Int)) = 65536 from rfl] at hp8
      go_wp2_with fail
      refine hp8.mono ?_
      clear hp8
      rintro e w8 ⟨rfl, h8⟩
      have hg9 := ho_get h8 65536 (by unfold I64; omega)
      rw [show fi (outE E1 n ++ [(65536, -1)]) 65536 = some (outE E1 n).length from HG.out.1] at hg9
      simp only [Option.isSome, Option.elim] at hg9
      rw [HG.out.2] at hg9
      have hl9 := ho_len h8
      rw [List.length_append, HH.out.2.2, show (((65535 + [((65536 : Nat), (-1 : Int))].length : Nat)) : Int) = 65536 from rfl] at hl9
      have H8 := hide h8
      clear h8
      go_wp2_with fail
      refine hg9.mono ?_
      clear hg9
      rintro e w9 ⟨rfl, hw9⟩
      obtain rfl := hw9.symm
      go_wp2_with fail
      refine hl9.mono ?_
      clear hl9
      rintro e w10 ⟨rfl, hw10⟩
      obtain rfl := hw10.symm
      go_wp2
      go_ret
      exact ⟨rfl, H8.out.grown⟩
set_option maxRecDepth 20000 in
theorem heapFull_any (w : World) : Calls Try.prog 5 #[] w fun e w' => e = .returned (.bool true) ∧ w.grownBy w' none := by
  have h1 := full_any 0 7 (by omega) w
  rw [show (((7 : Nat) : Int)) = 7 from rfl] at h1
  go_enter Try.func5, Try.ntmps5
  go_wp2_with fail
  refine h1.mono ?_
  clear h1
  rintro e w1 ⟨rfl, g1⟩
  have h2 := full_any 6 40000 (by omega) w1
  rw [show (((40000 : Nat) : Int)) = 40000 from rfl] at h2
  have G1 := hide g1
  clear g1
  go_wp2_with fail
  refine h2.mono ?_
  clear h2
  rintro e w2 ⟨rfl, g2⟩
  have h3 := awake_any w2
  have G2 := hide g2
  clear g2
  go_wp2_with fail
  refine h3.mono ?_
  clear h3
  rintro e w3 ⟨rfl, g3⟩
  have G3 := hide g3
  clear g3
  go_wp2
  go_ret
  exact ⟨rfl, grown_trans (grown_trans G1.out G2.out) G3.out⟩
end Go.Proofs.Ytkbhjdjdjfdikaa
