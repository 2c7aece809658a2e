/- The contract of the document's Patch. -/
import Derived.Test.YtfjpgmpffmpejaaDoorPatch2
namespace Go.Proofs.YtfjpgmpffmpejaaDoor
open Go.RowKit
attribute [local go_sem ↓] Go.wp_at_zero Go.wp_at_succ

set_option maxHeartbeats 400000 in
theorem rpatch_bad (ao : Option Addr) (n c : Nat) (p want : Int) (w : World) (h : p < 0 ∨ (n : Int) - 4 < p) (hm : n ≤ 140737488355328) :
    Calls Tryd.prog 19 #[.slice ao n c, .int .i64 p, .int .u32 want] w fun e w' => e = .returned (.tuple #[.slice none 0 0, .int .i64 2]) ∧ w' = w := by
  have hw : IntKind.i64.wrap ((n : Int) - 4) = (n : Int) - 4 := by rw [IntKind.wrap_i64]; omega
  by_cases h0 : p < 0
  · clear h
    go_enter Tryd.func19, Tryd.ntmps19
    go_wp2
    go_ret2
    exact ⟨rfl, rfl⟩
  · have h1 : (n : Int) - 4 < p := by omega
    clear h
    go_enter Tryd.func19, Tryd.ntmps19
    go_wp2
    go_ret2
    exact ⟨rfl, rfl⟩

theorem run_drop {xs : List Nat} {i : Nat} (hi : i < xs.length) (X : Nat) : Poly.run X (xs.drop i) = Poly.run (Poly.byteStep X xs[i]) (xs.drop (i + 1)) := by
  rw [List.drop_eq_getElem_cons hi]; rfl

set_option maxRecDepth 100000 in
set_option maxHeartbeats 2000000 in
theorem rpatch_any (ao : Option Addr) (n c at' want : Nat) (xs : List Nat) (w : World) (hn : xs.length = n) (hx : Bytes xs) (hat : At w ao xs) (hnil : ao = none → n = 0 ∧ c = 0) (hnc : n ≤ c) (hm : n ≤ 140737488355328) (ha : at' + 4 ≤ n) (hwant : want < 4294967296) :
    Calls Tryd.prog 19 #[.slice ao n c, .int .i64 (at' : Int), .int .u32 (want : Int)] w fun e w' => ∃ v, e = .returned (.tuple #[v, .int .i64 0]) ∧ w'.ownsRow w.heap.size 5 1 v n (bv (patchL xs at' want)) ∧ w.grownBy w' none := by
  have hw1 : IntKind.i64.wrap ((n : Int) - 4) = (n : Int) - 4 := by rw [IntKind.wrap_i64]; omega
  have hi1 : ¬ (n : Int) - 4 < (at' : Int) := by omega
  have hxw : bits .xor .u32 (want : Int) 4294967295 = ((want ^^^ 4294967295 : Nat) : Int) := bits_xor_u32 want 4294967295 hwant (by decide)
  have hxwl : want ^^^ 4294967295 < 4294967296 := Poly.xor_lt32 hwant (by decide)
  have HD := hide (fun (X2 : Nat) (hX : X2 < 4294967296) (h : Poly.run X2 (xs.drop (at' + 4)) = want ^^^ 4294967295) => doc_patch hx (by omega) hwant hX h)
  obtain ⟨R, hR⟩ : ∃ R, R = patchL xs at' want := ⟨_, rfl⟩
  rw [← hR] at HD ⊢
  clear hR
  obtain ⟨W', hW'⟩ : ∃ x, x = want ^^^ 4294967295 := ⟨_, rfl⟩
  rw [← hW'] at hxw hxwl HD
  clear hW'
  have HA := hide (And.intro hn (And.intro hx (And.intro hat hnil)))
  clear hn hx hat hnil
  go_enter Tryd.func19, Tryd.ntmps19
  go_wp2
  go_loopg [8, 9] at' (fun k r i wr => ∃ j : Nat, k + j = at' ∧ i = .int .i64 j ∧ r = .int .u32 ((Poly.run 4294967295 (xs.take j) : Nat) : Int) ∧ wr = w)
  case atStart => exact ⟨0, by omega, rfl, rfl, rfl⟩
  case round =>
    obtain ⟨j, hkj, rfl, rfl, rfl⟩ := hrel
    have hR0 := Poly.run_lt (xs.take j) (r := 4294967295) (by decide) (HA.out.2.1.take j)
    by_cases hk : 0 < gk
    · obtain ⟨hn, hx, hat, hnil⟩ := HA.out
      have hj : j < xs.length := by omega
      obtain ⟨a, rfl, hca⟩ := hat j xs[j] (by simp [hj])
      have hb := hx xs[j] (List.getElem_mem hj)
      have HR := hide (run_take hj 4294967295)
      generalize xs[j] = x at *
      generalize Poly.run 4294967295 (xs.take j) = r at *
      have HB := hide (fun w => rbyte_any r x hR0 hb w)
      generalize Poly.byteStep r x = r1 at *
      have hj1 : (j : Int) < (n : Int) := by omega
      have hj2 : (j : Int) < (at' : Int) := by omega
      clear hn hx hat hnil hj
      go_wp2_with fail
      refine (HB.out _).mono ?_
      rintro e w' ⟨rfl, rfl⟩
      go_wp2
      go_roundg (gk - 1)
      case measure => omega
      case rel => exact ⟨j + 1, by omega, by go_num, by rw [HR.out], rfl⟩
    · have hj : j = at' := by omega
      have hj1 : ¬ (j : Int) < (at' : Int) := by omega
      rw [hj] at hR0 ⊢
      generalize hr : Poly.run 4294967295 (xs.take at') = r at *
      have HR := hide hr
      clear hr hj
      go_wp2
      go_loopg [10, 11] (n - (at' + 4)) (fun k x i wx => ∃ (m X : Nat), k + (at' + 4) = m ∧ m ≤ n ∧ i = .int .i64 ((m : Int) - 1) ∧ x = .int .u32 (X : Int) ∧ X < 4294967296 ∧ Hid (Poly.run X (xs.drop m) = W') ∧ wx = wr)
      case atStart => exact ⟨n, W', by omega, Nat.le_refl _, rfl, rfl, hxwl, (by show Poly.run W' (xs.drop n) = W'; rw [List.drop_of_length_le (by rw [HA.out.1]; exact Nat.le_refl _)]; rfl), rfl⟩
      case round =>
        obtain ⟨m, X, hkm, hmn, rfl, rfl, hX, HX, rfl⟩ := hrel
        by_cases hk2 : 0 < gk
        · obtain ⟨m1, rfl⟩ : ∃ m1, m = m1 + 1 := ⟨m - 1, by omega⟩
          obtain ⟨hn, hx, hat, hnil⟩ := HA.out
          have hj : m1 < xs.length := by omega
          obtain ⟨a, rfl, hca⟩ := hat m1 xs[m1] (by simp [hj])
          have hb := hx xs[m1] (List.getElem_mem hj)
          have hstep : Poly.run (Poly.unsteps 8 X ^^^ xs[m1]) (xs.drop m1) = W' := by
            rw [run_drop hj, Poly.byteStep, Poly.xor_cancel, Poly.steps_unsteps 8 hX]; exact HX.out
          have hlt := Poly.xor_lt32 (Poly.unsteps_lt 8 hX) (show xs[m1] < 4294967296 by omega)
          have HB := hide (fun w => rback_any X xs[m1] hX hb w)
          have HST := hide hstep
          generalize xs[m1] = x at *
          generalize Poly.unsteps 8 X ^^^ x = X1 at *
          rw [show (((m1 + 1 : Nat) : Int) - 1) = (m1 : Int) by omega]
          have i1 : (m1 : Int) < (n : Int) := by omega
          have i2 : (at' : Int) + 4 ≤ (m1 : Int) := by omega
          clear hn hx hat hnil hj hstep HX
          go_wp2_with fail
          refine (HB.out _).mono ?_
          rintro e w' ⟨rfl, rfl⟩
          go_wp2
          go_roundg (gk - 1)
          case measure => omega
          case rel => exact ⟨m1, X1, by omega, by omega, by go_num, rfl, hlt, HST.out, rfl⟩
        · have hm4 : m = at' + 4 := by omega
          have i1 : ¬ (at' : Int) + 4 ≤ (m : Int) - 1 := by omega
          have HX2 : Hid (Poly.run X (xs.drop (at' + 4)) = W') := by rw [← hm4]; exact HX
          clear HX hm4 hkm hmn
          go_wp2
          go_loopg [10, 12] 4 (fun k x i wx => ∃ (t Y : Nat), k + t = 4 ∧ i = .int .i64 t ∧ x = .int .u32 (Y : Int) ∧ Y < 4294967296 ∧ Hid (Y = Poly.unsteps (8 * t) X) ∧ wx = wr)
          case atStart => exact ⟨0, X, rfl, rfl, rfl, hX, rfl, rfl⟩
          case round =>
            obtain ⟨t, Y, hkt, rfl, rfl, hY, HY, rfl⟩ := hrel
            by_cases hk3 : 0 < gk
            · have hb0 : ∀ w, Calls Tryd.prog 31 #[.int .u32 (Y : Int), .int .u8 0] w fun e w' => e = .returned (.int .u32 ((Poly.unsteps 8 Y : Nat) : Int)) ∧ w' = w := fun w => by
                have h := rback_any Y 0 hY (by decide) w
                rw [Nat.xor_zero] at h
                exact h
              have HB := hide hb0
              have hl := Poly.unsteps_lt 8 hY
              have HY2 : Hid (Poly.unsteps 8 Y = Poly.unsteps (8 * (t + 1)) X) := by
                show _ = _
                rw [HY.out, ← Poly.unsteps_add]
                congr 1; omega
              generalize Poly.unsteps 8 Y = Y1 at *
              have i2 : (t : Int) < 4 := by omega
              clear hb0 HY
              go_wp2_with fail
              refine (HB.out _).mono ?_
              rintro e w' ⟨rfl, rfl⟩
              go_wp2
              go_roundg (gk - 1)
              case measure => omega
              case rel => exact ⟨t + 1, Y1, by omega, by go_num, rfl, hl, HY2, rfl⟩
            · have ht : t = 4 := by omega
              have i2 : ¬ (t : Int) < 4 := by omega
              have HYX : Hid (Y = Poly.unsteps 32 X) := by
                have := HY.out
                rw [ht] at this
                exact this
              have hxo := bits_xor_u32 Y r hY hR0
              have hzl := Poly.xor_lt32 hY hR0
              have hD := HD.out X hX HX2.out
              rw [← HYX.out] at hD
              generalize Y ^^^ r = z at *
              have HDD := hide hD
              have s1 := slice_to ao n c at' (by omega)
              have hw4 : IntKind.i64.wrap ((at' : Int) + 4) = (at' : Int) + 4 := by rw [IntKind.wrap_i64]; omega
              have s3 : ∀ w, (Instr.slice 23 (.slice ao n c) (some (.int .i64 ((at' : Int) + 4))) none none).run Tryd.prog w = .ok (.slice (cutA ao (at' + 4) c) (n - (at' + 4)) (c - (at' + 4))) w := slice_from ao n c (at' + 4) ha
              obtain ⟨hn, hx, hat, hnil⟩ := HA.out
              obtain ⟨a0, rfl⟩ : ∃ a0, ao = some a0 := by
                cases ao with
                | none => have := hnil rfl; omega
                | some a0 => exact ⟨a0, rfl⟩
              clear hn hx hat hnil HY HX2 hD ht HD HR HYX
              go_wp2_with (at_builtin; refine wpList_append_at rfl (.tmp 60) (.tmp 63) rfl wr.heap.size (.slice none 0 0) 0 [] rfl (World.ownsRow_nil _ _ _ _) (some a0) at' c (xs.take at') rfl (by rw [List.length_take, HA.out.1]; omega) (HA.out.2.2.1.take at') (fun e => by cases e) (by omega) (Nat.le_refl _) ?_)
              intro v1 w1 hown1 hg1
              have G1 : Hid (wr.grownBy w1 none) := grown_then (grown_refl wr none) hg1 (fun k e => by cases e)
              obtain ⟨a1, c1, rfl, -⟩ := own_at hown1
              have HO1 := hide hown1
              clear hown1 hg1
              go_wp2_with (at_builtin; refine wpList_append_at rfl (.tmp 65) (.tmp 77) rfl wr.heap.size (.slice a1 at' c1) at' (xs.take at') rfl (HO1.out.alloc _) (some ⟨_, 0, none⟩) 4 4 (four z) rfl rfl ?_ (fun e => by cases e) (by omega) (by have := G1.out.size; simp; omega) ?_)
              · exact (at_new _ (four z) _ (by simp [bv, four]; omega) 5)
              · intro v2 w2 hown2 hg2
                have G2 : Hid (wr.grownBy w2 none) := grown_then (grown_trans G1.out (World.grownBy_alloc w1 _ none)) hg2 (fun k e => Or.inl (HO1.out.lt k e).1)
                obtain ⟨a2, c2, rfl, -⟩ := own_at hown2
                have HO2 := hide hown2
                have HC : Hid (At w2 (cutA (some a0) (at' + 4) c) (xs.drop (at' + 4)) ∧ (cutA (some a0) (at' + 4) c = none → n - (at' + 4) = 0 ∧ c - (at' + 4) = 0)) := by
                  refine ⟨(HA.out.2.2.1.grown G2.out).cut _ _ (by rw [HA.out.1]; exact hnc), fun e => ?_⟩
                  unfold cutA at e
                  split at e <;> simp at e
                clear hown2 hg2 HO1 G1
                go_wp2_with (at_builtin; refine wpList_append_at rfl (.tmp 79) (.tmp 83) rfl wr.heap.size (.slice a2 (at' + 4) c2) (at' + 4) (xs.take at' ++ four z) rfl HO2.out (cutA (some a0) (at' + 4) c) (n - (at' + 4)) (c - (at' + 4)) (xs.drop (at' + 4)) rfl (by rw [List.length_drop, HA.out.1]) HC.out.1 HC.out.2 (by omega) G2.out.size ?_)
                intro v3 w3 hown3 hg3
                have G3 : Hid (wr.grownBy w3 none) := grown_then G2.out hg3 (fun k e => Or.inl (HO2.out.lt k e).1)
                rw [HDD.out] at hown3
                obtain ⟨a3, c3, rfl, -⟩ := own_at hown3
                have HO3 := hide hown3
                clear hown3 hg3 HO2 G2 HC
                go_wp2
                go_ret2
                exact ⟨_, rfl, HO3.out, G3.out⟩
end Go.Proofs.YtfjpgmpffmpejaaDoor
