/- The walk of IndexNumbers. -/
import Derived.Test.YtoocaioilpgmeaaNn
namespace Go.Proofs.Ytoocaioilpgmeaa
open Go.RowKit Ix Go.Shelf
attribute [local go_sem ↓] Go.wp_at_zero Go.wp_at_succ
theorem wrap_u32 (n : Int) : IntKind.u32.wrap n = n % 4294967296 := by simp [IntKind.wrap, IntKind.bits, IntKind.signed]
set_option maxRecDepth 100000 in
set_option maxHeartbeats 8000000 in
theorem indexNumbers_any (w : World) : Calls Try.prog 3 #[] w fun e w' => e = .returned (.bool true) ∧ w.grownBy w' none := by
  go_enter Try.func3, Try.ntmps3
  go_wp2
  generalize hwz : World.alloc (World.alloc w _) _ = w0
  have g0 : w.grownBy w0 none := by rw [← hwz]; exact grown_trans (World.grownBy_alloc w _ none) (World.grownBy_alloc _ _ none)
  have nb0 : w0.heap[w.heap.size]? = some (.cells [Value.pointer none, .int .i64 0, .int .i64 0, .int .i64 0, .slice none 0 0].toArray 25 (0, 0)) := by
    rw [← hwz]
    exact ((World.grownBy_alloc _ _ none).block _ (row_lt (heap_alloc_new w _)) (by simp)).trans (heap_alloc_new w _)
  have nb1 : w0.heap[w.heap.size + 1]? = some (.cells [Value.pointer none, .pointer (some ⟨w.heap.size, 0, none⟩)].toArray 22 (0, 0)) := by
    have := heap_alloc_new (w.alloc (.cells #[.pointer none, .int .i64 0, .int .i64 0, .int .i64 0, .slice none 0 0] 25)) (.cells #[.pointer none, .pointer (some ⟨w.heap.size, 0, none⟩)] 22)
    rw [World.size_alloc] at this
    rw [← hwz]
    exact this
  have hel : ∀ t, t < 2 → ∃ v, w0.cell? ⟨w.heap.size + 1, t, none⟩ = some v ∧ NoIx w0 v := by
    intro t ht
    rcases (show t = 0 ∨ t = 1 by omega) with rfl | rfl
    · exact ⟨_, cell_row nb1 0, .inl rfl⟩
    · exact ⟨_, cell_row nb1 1, .inr ⟨_, rfl, cell_row nb0 0⟩⟩
  obtain ⟨B, hB⟩ : ∃ B, B = w.heap.size + 1 := ⟨_, rfl⟩
  rw [← hB] at hel ⊢
  have HEL := hide hel
  have HG0 := hide g0
  clear hel g0 nb0 nb1 hwz hB
  go_loopg [27] 2 (fun q v wr => ∃ t : Nat, v = .int .i64 (t : Int) ∧ Hid (q = 2 - t ∧ t ≤ 2 ∧ w0.grownBy wr none))
  case atStart => exact ⟨0, rfl, rfl, Nat.zero_le _, grown_refl _ _⟩
  case round =>
    obtain ⟨t, rfl, HR⟩ := hrel
    by_cases ht : t < 2
    · obtain ⟨v, hc, hno⟩ := HEL.out t ht
      have hc1 := HR.out.2.2.cell hc (by simp)
      have hno1 := hno.then HR.out.2.2
      have hget := get_no hno1 1
      have htl := told_no hno1
      have b1 : ((t : Int) < 2) = True := by simp; omega
      have HN := hide hno1
      clear hc hno hno1
      go_wp2_with fail
      refine hget.mono ?_
      clear hget
      rintro e wx ⟨rfl, hwx⟩
      obtain rfl := hwx.symm
      go_wp2_with fail
      refine htl.mono ?_
      clear htl
      rintro e w1 ⟨v1, u1, rfl, hr1, hr2, hg1⟩
      obtain ⟨so, sc, rfl, -⟩ := own_form hr1
      have hno2 := HN.out.then hg1
      have q1 := put_no hno2 1 1
      have q2 := set_no hno2 1 1
      have q3 := drop_no hno2 1
      have q4 := most_no hno2
      have q5 := len_no hno2
      have q6 := steps_no hno2
      have q7 := slots_no hno2
      have H1 := hide (grown_trans HR.out.2.2 hg1)
      simp only [List.length_nil] at hr1 ⊢
      clear hno2 hg1 hr1 hr2
      go_wp2_with fail
      refine q1.mono ?_
      clear q1
      rintro e wx ⟨rfl, hwx⟩
      obtain rfl := hwx.symm
      go_wp2_with fail
      refine q2.mono ?_
      clear q2
      rintro e wx ⟨rfl, hwx⟩
      obtain rfl := hwx.symm
      go_wp2_with fail
      refine q3.mono ?_
      clear q3
      rintro e wx ⟨rfl, hwx⟩
      obtain rfl := hwx.symm
      go_wp2_with fail
      refine q4.mono ?_
      clear q4
      rintro e wx ⟨rfl, hwx⟩
      obtain rfl := hwx.symm
      go_wp2_with fail
      refine q5.mono ?_
      clear q5
      rintro e wx ⟨rfl, hwx⟩
      obtain rfl := hwx.symm
      go_wp2_with fail
      refine q6.mono ?_
      clear q6
      rintro e wx ⟨rfl, hwx⟩
      obtain rfl := hwx.symm
      go_wp2_with fail
      refine q7.mono ?_
      clear q7
      rintro e wx ⟨rfl, hwx⟩
      obtain rfl := hwx.symm
      go_wp2
      go_roundg (gk - 1)
      case rel => exact ⟨t + 1, by simp, by have := HR.out.1; omega, by omega, H1.out⟩
      case measure => have := HR.out.1; omega
    · have b1 : ((t : Int) < 2) = False := by simp; omega
      have HG1 := hide (grown_trans HG0.out HR.out.2.2)
      clear HEL HR HG0 ht
      have hb0 := new_bad 0 (by decide) wr
      have hb1 := new_bad 4097 (by decide) wr
      have hb2 := new_io 4096 (by decide) (by decide) wr
      simp only [show (((4096 : Nat)) : Int) = 4096 from rfl] at hb2
      go_wp2_with fail
      refine hb0.mono ?_
      clear hb0
      rintro e wx ⟨rfl, hwx⟩
      obtain rfl := hwx.symm
      go_wp2_with fail
      refine hb1.mono ?_
      clear hb1
      rintro e wx ⟨rfl, hwx⟩
      obtain rfl := hwx.symm
      go_wp2_with fail
      refine hb2.mono ?_
      clear hb2
      rintro e w2 ⟨p, rfl, hm, h2, g2, ho⟩
      have hn8 : p.n = 8192 := by have h1 := h2.few.2.2.2; rw [hm] at h1; exact h1.unique sz4096
      have q1 := h2.slots
      have q2 := h2.most
      rw [hn8] at q1
      rw [hm] at q2
      obtain ⟨st, hst1, hst2, hst3⟩ := h2.steps
      have hst0 : st = 0 := by
        rcases Nat.eq_zero_or_pos st with h | h
        · exact h
        · have := hst2.2 h; cases this
      subst hst0
      have q3 := hst3 w2 (fun _ _ => rfl)
      have H2 := hide (And.intro hm (And.intro h2 (And.intro g2 (And.intro ho hn8))))
      clear hm h2 g2 ho hn8 hst1 hst2 hst3
      go_wp2_with fail
      refine q1.mono ?_
      clear q1
      rintro e wx ⟨rfl, hwx⟩
      obtain rfl := hwx.symm
      go_wp2_with fail
      refine q2.mono ?_
      clear q2
      rintro e wx ⟨rfl, hwx⟩
      obtain rfl := hwx.symm
      go_wp2_with fail
      refine q3.mono ?_
      clear q3
      rintro e wx ⟨rfl, hwx⟩
      obtain rfl := hwx.symm
      go_wp2
      generalize hwo : wr = wo at *
      clear hwo
      go_loopg [15] 4096 (fun q v wr => ∃ i : Nat, v = .int .i64 (i : Int) ∧ Hid (q = 4096 - i ∧ i ≤ 4096 ∧ (∃ M lo, Io wr p M lo ∧ Fil M i) ∧ w.grownBy wr none))
      case atStart => exact ⟨0, rfl, rfl, Nat.zero_le _, ⟨[], false, H2.out.2.1, Fil.nil⟩, grown_trans HG1.out H2.out.2.2.1⟩
      case round =>
        obtain ⟨i, rfl, HR⟩ := hrel
        by_cases hi : i < 4096
        · obtain ⟨M, lo, hM, hF⟩ := HR.out.2.2.1
          obtain ⟨e1, e2⟩ := hF.next hM.asc hi
          have hp := put_io hM (i * 65537) (by omega) (i : Int) (by omega) (by omega)
          rw [H2.out.1, e1] at hp
          have b1 : ((i : Int) < 4096) = True := by simp; omega
          have x1 : IntKind.u32.wrap (i : Int) = (i : Int) := by rw [wrap_u32]; omega
          have x2 : IntKind.u32.wrap ((i : Int) * 65537) = ((i * 65537 : Nat) : Int) := by rw [wrap_u32]; omega
          have HF := hide e2
          clear hM hF e1 e2
          generalize i * 65537 = k at *
          go_wp2_with fail
          refine hp.mono ?_
          clear hp
          rintro e w3 ⟨rfl, h3, k3⟩
          have H3 := hide (And.intro h3 k3)
          clear h3 k3
          go_wp2
          go_roundg (gk - 1)
          case rel => exact ⟨i + 1, by simp, by have := HR.out.1; omega, by omega, ⟨_, true, H3.out.1, HF.out⟩, Kept.grown ((Kept.new HR.out.2.2.2 (fun i => w.heap.size ≤ i)).trans H3.out.2 (fun i _ e => Nat.le_trans HG1.out.size (H2.out.2.2.2.1 i e))) (fun i hi e => by omega)⟩
          case measure => have := HR.out.1; omega
        · obtain rfl : i = 4096 := by have := HR.out.2.1; omega
          have b1 : (((4096 : Nat) : Int) < 4096) = False := by simp
          obtain ⟨M, lo, hM, hF⟩ := HR.out.2.2.1
          have hp1 := put_io hM 1 (by decide) 1 (by decide) (by decide)
          have hpe : putE M 1 4096 = 6 ∧ putM M 1 4096 1 = M := by simp [putE, putM, hF.one, hF.len]
          rw [H2.out.1, hpe.1, hpe.2] at hp1
          have HF := hide (And.intro hF HR.out.2.2.2)
          clear hM hpe hF HR
          generalize wr = wq at *
          go_wp2_with fail
          refine hp1.mono ?_
          clear hp1
          rintro e w3 ⟨rfl, h3, k3⟩
          have hp2 := put_io h3 65537 (by decide) 1 (by decide) (by decide)
          have hl1 : lk M 65537 = some 1 := by have := HF.out.1.at_ 1; simpa using this
          have hpe : putE M 65537 4096 = 7 ∧ putM M 65537 4096 1 = M := by simp [putE, putM, hl1]
          rw [H2.out.1, hpe.1, hpe.2] at hp2
          have H3 := hide k3
          clear h3 k3 hl1 hpe
          go_wp2_with fail
          refine hp2.mono ?_
          clear hp2
          rintro e w4 ⟨rfl, h4, k4⟩
          have H4 : Hid (Io w4 p M true ∧ w.grownBy w4 none ∧ Dro M 0) := ⟨h4, Kept.grown (((Kept.new HF.out.2 (fun i => w.heap.size ≤ i)).trans H3.out (fun i _ e => Nat.le_trans HG1.out.size (H2.out.2.2.2.1 i e))).trans k4 (fun i _ e => Nat.le_trans HG1.out.size (H2.out.2.2.2.1 i e))) (fun i hi e => by omega), HF.out.1.dro⟩
          clear h4 k4 H3 HF
          go_wp2
          go_loopg [18] 2048 (fun q v wr => ∃ i : Nat, v = .int .i64 ((2 * i : Nat) : Int) ∧ Hid (q = 2048 - i ∧ i ≤ 2048 ∧ (∃ M lo, Io wr p M lo ∧ Dro M i) ∧ w.grownBy wr none))
          case atStart => exact ⟨0, rfl, rfl, Nat.zero_le _, ⟨M, true, H4.out.1, H4.out.2.2⟩, H4.out.2.1⟩
          case round =>
            obtain ⟨i, rfl, HR⟩ := hrel
            by_cases hi : i < 2048
            · obtain ⟨M, lo, hM, hF⟩ := HR.out.2.2.1
              obtain ⟨e1, e2⟩ := hF.next hM.asc hi
              have hp := drop_io hM (2 * i * 65537) (by omega)
              rw [e1] at hp
              obtain ⟨i2, hi2⟩ : ∃ i2, i2 = 2 * i := ⟨_, rfl⟩
              rw [← hi2] at hp e2 ⊢
              have hi3 : i2 < 4096 := by omega
              have b1 : ((i2 : Int) < 4096) = True := by simp; omega
              have x1 : IntKind.u32.wrap (i2 : Int) = (i2 : Int) := by rw [wrap_u32]; omega
              have x2 : IntKind.u32.wrap ((i2 : Int) * 65537) = ((i2 * 65537 : Nat) : Int) := by rw [wrap_u32]; omega
              have HF := hide (And.intro e2 hi2)
              clear hM hF e1 e2 hi2
              generalize i2 * 65537 = k at *
              go_wp2_with fail
              refine hp.mono ?_
              clear hp
              rintro e w3 ⟨rfl, h3, k3⟩
              have H3 := hide (And.intro h3 k3)
              clear h3 k3
              go_wp2
              go_roundg (gk - 1)
              case rel => exact ⟨i + 1, by have := HF.out.2; simp; omega, by have := HR.out.1; omega, by omega, ⟨_, true, H3.out.1, HF.out.1⟩, Kept.grown ((Kept.new HR.out.2.2.2 (fun i => w.heap.size ≤ i)).trans H3.out.2 (fun i _ e => Nat.le_trans HG1.out.size (H2.out.2.2.2.1 i e))) (fun i hi e => by omega)⟩
              case measure => have := HR.out.1; omega
            · obtain rfl : i = 2048 := by have := HR.out.2.1; omega
              obtain ⟨M, lo, hM, hF⟩ := HR.out.2.2.1
              have H5 := hide (And.intro hM (And.intro hF HR.out.2.2.2))
              clear hM hF HR
              generalize wr = wq2 at *
              simp only [show (((2 * 2048 : Nat)) : Int) = 4096 from rfl]
              go_wp2
              go_loopg [19] 4096 (fun q v wr => ∃ i : Nat, v = .int .i64 (i : Int) ∧ Hid (q = 4096 - i ∧ i ≤ 4096 ∧ (∃ lo, Io wr p M lo) ∧ w.grownBy wr none))
              case atStart => exact ⟨0, rfl, rfl, Nat.zero_le _, ⟨lo, H5.out.1⟩, H5.out.2.2⟩
              case round =>
                obtain ⟨i, rfl, HR⟩ := hrel
                by_cases hi : i < 4096
                · obtain ⟨lo2, hM⟩ := HR.out.2.2.1
                  have hp := get_io hM (i * 65537) (by omega)
                  have b1 : ((i : Int) < 4096) = True := by simp; omega
                  have x1 : IntKind.u32.wrap (i : Int) = (i : Int) := by rw [wrap_u32]; omega
                  have x2 : IntKind.u32.wrap ((i : Int) * 65537) = ((i * 65537 : Nat) : Int) := by rw [wrap_u32]; omega
                  have hlk := H5.out.2.1.at_ i hi
                  clear hM
                  by_cases hev : i % 2 = 0
                  · rw [hlk, if_pos ⟨hev, by omega⟩] at hp
                    simp only [Option.getD, Option.isSome] at hp
                    have hmod : (i : Int).tmod 2 = 0 := by rw [Int.tmod_eq_emod_of_nonneg (by omega)]; omega
                    clear hlk hev
                    generalize i * 65537 = k at *
                    go_wp2_with fail
                    refine hp.mono ?_
                    clear hp
                    rintro e w3 ⟨rfl, h3, k3⟩
                    obtain ⟨st, hst1, hst2, hst3⟩ := h3.steps
                    have q1 := hst3 w3 (fun _ _ => rfl)
                    have s1 := hst2.1 rfl
                    rw [H2.out.2.2.2.2] at hst1
                    have H3 := hide (And.intro h3 k3)
                    clear h3 k3 hst2 hst3
                    go_wp2_with fail
                    refine q1.mono ?_
                    rintro e wx ⟨rfl, hwx⟩
                    obtain rfl := hwx.symm
                    go_wp2_with fail
                    refine q1.mono ?_
                    clear q1
                    rintro e wx ⟨rfl, hwx⟩
                    obtain rfl := hwx.symm
                    go_wp2
                    go_roundg (gk - 1)
                    case rel => exact ⟨i + 1, by simp, by have := HR.out.1; omega, by omega, ⟨_, H3.out.1⟩, Kept.grown ((Kept.new HR.out.2.2.2 (fun i => w.heap.size ≤ i)).trans H3.out.2 (fun i _ e => Nat.le_trans HG1.out.size (H2.out.2.2.2.1 i e))) (fun i hi e => by omega)⟩
                    case measure => have := HR.out.1; omega
                  · rw [hlk, if_neg (by omega)] at hp
                    simp only [Option.getD, Option.isSome] at hp
                    have hmod : (i : Int).tmod 2 = 1 := by rw [Int.tmod_eq_emod_of_nonneg (by omega)]; omega
                    clear hlk hev
                    generalize i * 65537 = k at *
                    go_wp2_with fail
                    refine hp.mono ?_
                    clear hp
                    rintro e w3 ⟨rfl, h3, k3⟩
                    obtain ⟨st, hst1, hst2, hst3⟩ := h3.steps
                    have q1 := hst3 w3 (fun _ _ => rfl)
                    have s1 := hst2.1 rfl
                    rw [H2.out.2.2.2.2] at hst1
                    have H3 := hide (And.intro h3 k3)
                    clear h3 k3 hst2 hst3
                    go_wp2_with fail
                    refine q1.mono ?_
                    rintro e wx ⟨rfl, hwx⟩
                    obtain rfl := hwx.symm
                    go_wp2_with fail
                    refine q1.mono ?_
                    clear q1
                    rintro e wx ⟨rfl, hwx⟩
                    obtain rfl := hwx.symm
                    go_wp2
                    go_roundg (gk - 1)
                    case rel => exact ⟨i + 1, by simp, by have := HR.out.1; omega, by omega, ⟨_, H3.out.1⟩, Kept.grown ((Kept.new HR.out.2.2.2 (fun i => w.heap.size ≤ i)).trans H3.out.2 (fun i _ e => Nat.le_trans HG1.out.size (H2.out.2.2.2.1 i e))) (fun i hi e => by omega)⟩
                    case measure => have := HR.out.1; omega
                · obtain rfl : i = 4096 := by have := HR.out.2.1; omega
                  obtain ⟨lo2, hM⟩ := HR.out.2.2.1
                  have q1 := hM.len
                  have hml : M.length = 2048 := by have := H5.out.2.1.len; omega
                  rw [hml] at q1
                  have q2 := put_io hM 1 (by decide) 1 (by decide) (by decide)
                  rw [H2.out.1, show putE M 1 4096 = 0 by simp [putE, H5.out.2.1.one, hml]] at q2
                  have HG := hide HR.out.2.2.2
                  clear hM hml HR
                  go_wp2_with fail
                  refine q1.mono ?_
                  clear q1
                  rintro e wx ⟨rfl, hwx⟩
                  obtain rfl := hwx.symm
                  go_wp2_with fail
                  refine q2.mono ?_
                  clear q2
                  rintro e w5 ⟨rfl, h5, k5⟩
                  have H6 := hide k5
                  clear h5 k5
                  go_wp2_with fail
                  refine (awake_any _).mono ?_
                  rintro e w6 ⟨rfl, g6⟩
                  have H7 := hide g6
                  clear g6
                  go_wp2
                  go_ret
                  exact ⟨rfl, Kept.grown (((Kept.new HG.out (fun i => w.heap.size ≤ i)).trans H6.out (fun i _ e => Nat.le_trans HG1.out.size (H2.out.2.2.2.1 i e))).trans (Kept.new H7.out (fun i => w.heap.size ≤ i)) (fun _ _ e => e)) (fun i hi e => by omega)⟩
end Go.Proofs.Ytoocaioilpgmeaa
