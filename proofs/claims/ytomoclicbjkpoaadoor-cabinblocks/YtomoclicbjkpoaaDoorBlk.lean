/- CabinBlocks: the walk. -/
import Derived.Test.YtomoclicbjkpoaaDoorFa
import Derived.Test.YtomoclicbjkpoaaDoorEc
namespace Go.Proofs.YtomoclicbjkpoaaDoor
open Go.RowKit Cx
attribute [local go_sem ↓] Go.wp_at_zero Go.wp_at_succ

theorem box2c {w : World} {g : Nat} {u v : Value} {t : TypeId} (h : w.heap[g]? = some (.cells #[u, v] t)) : w.cell? ⟨g, 0, none⟩ = some u ∧ w.cell? ⟨g, 1, none⟩ = some v :=
  ⟨cell_row (l := [u, v]) h 0, cell_row (l := [u, v]) h 1⟩
/-- What Window tells of seat t of a block of c. -/
def Wins (t c : Nat) (wn xn : Bool) : Prop := (t = 0 ∧ (wn = true ∨ wn = false ∧ xn = true)) ∨ (0 < t ∧ t + 1 = c ∧ (wn = true ∨ wn = false ∧ xn = true)) ∨ (0 < t ∧ t + 1 < c ∧ wn = false ∧ xn = false)
theorem wins_of {W : Nat} (hW : 1 ≤ W) {L : List Int} {f c t : Nat} (h1 : bg W L f = true) (h2 : bg W L (f + c) = true) (h3 : ∀ d, 1 ≤ d → d < c → bg W L (f + d) = false) (ht : t < c) : Wins t c (win W ((f + t) % W)) (ai L ((f + t) % W) || ai L ((f + t) % W + 1)) := by
  have key : ∀ {a b : Bool}, a = true ∨ b = true → (a = true ∨ a = false ∧ b = true) := by
    intro a b h
    cases a
    · right; rcases h with h | h
      · cases h
      · exact ⟨rfl, h⟩
    · exact Or.inl rfl
  unfold Wins win
  by_cases h0 : t = 0
  · subst h0
    exact Or.inl ⟨rfl, key (win_first h1)⟩
  · by_cases hl : t + 1 = c
    · right; left
      refine ⟨by omega, hl, key (win_last hW ?_)⟩
      rw [show f + t + 1 = f + c by omega]; exact h2
    · right; right
      have := win_in hW (h3 t (by omega) (by omega)) (show bg W L (f + t + 1) = false by rw [Nat.add_assoc]; exact h3 (t + 1) (by omega) (by omega))
      exact ⟨by omega, by omega, this⟩
theorem bes_swap (W : Nat) (L : List Int) (s t : Nat) : bes W L s t = bes W L t s := by
  unfold bes
  rw [Nat.max_comm, Nat.min_comm]
theorem bes_next (W : Nat) (L : List Int) (s : Nat) : bes W L s (s + 1) = !bg W L (s + 1) := by
  unfold bes
  rw [Nat.max_eq_right (by omega), Nat.min_eq_left (by omega), show s + 1 - s = 1 by omega]
  simp
set_option maxRecDepth 100000 in
set_option maxHeartbeats 4000000 in
theorem cabinBlocks_any (x y b : Int) (w : World) (hE : Er w) :
    Calls Tryd.prog 7 #[.int .i64 x, .int .i64 y, .int .i64 b] w fun e w' => e = .returned (.bool true) ∧ w.grownBy w' none := by
  have A := hide (fun w' (hg : w.grownBy w' none) => awake_any w' (hE.grown hg))
  have P := hide (pick_any x 8 8 · rfl (by omega) (by omega))
  have hp8 : 0 ≤ x % ((8 : Nat) : Int) ∧ x % ((8 : Nat) : Int) < 8 := by omega
  generalize x % ((8 : Nat) : Int) = x8 at *
  have S := hide (some_any x8 y b)
  have hr : (x8 % 64).toNat + 1 ≤ 64 := by omega
  have hq : (y % 16).toNat + 1 ≤ 16 := by omega
  have hr1 : 1 ≤ (x8 % 64).toNat + 1 := by omega
  have hq1 : 1 ≤ (y % 16).toNat + 1 := by omega
  generalize (x8 % 64).toNat + 1 = R at *
  generalize (y % 16).toNat + 1 = W at *
  obtain ⟨N, hN⟩ : ∃ N, N = R * W := ⟨_, rfl⟩
  have hNN : (R : Int) * (W : Int) = (N : Int) := by rw [hN, Int.natCast_mul]
  have hN2 : N ≤ 64 * 16 := by rw [hN]; exact Nat.mul_le_mul hr hq
  have hwr : IntKind.i64.wrap ((R : Int) * (W : Int)) = (N : Int) := by rw [hNN]; exact IntWalk.i64_in _ (by omega)
  have HN := hide (And.intro hNN hN)
  have hW0 : ¬ W = 0 := by omega
  have hne : ((W : Int) == 0) = false := by simp; omega
  clear hNN hN hE hp8
  go_enter Tryd.func7, Tryd.ntmps7
  go_wp2_with fail
  refine (A.out _ (grown_refl w _)).mono ?_
  rintro e w1 ⟨rfl, hg1⟩
  have G1 := hide hg1
  clear hg1
  go_wp2_with fail
  refine (P.out _).mono ?_
  rintro e w1' ⟨rfl, rfl⟩
  go_wp2_with fail
  refine (S.out _).mono ?_
  rintro e w2 ⟨⟨L, ao, n, cap, rfl, hcb, hok⟩, hg2⟩
  have G2 := hide (And.intro (grown_trans (grown_trans G1.out hg2) (grown_alloc w2 (.cells #[.int .i64 (R : Int), .int .i64 (W : Int), .slice ao n cap] 24))) (And.intro (hcb.grown (grown_alloc w2 (.cells #[.int .i64 (R : Int), .int .i64 (W : Int), .slice ao n cap] 24))) (heap_alloc_new w2 (.cells #[.int .i64 (R : Int), .int .i64 (W : Int), .slice ao n cap] 24))))
  have HO := hide hok
  clear hg2 hcb hok G1
  unfold cbV
  go_wp2_with fail
  refine (blocks_ok R W ao n cap L _ G2.out.2.1 HO.out).mono ?_
  rintro e w3 ⟨v, rfl, hown, hg3⟩
  rw [← HN.out.2] at hown
  obtain ⟨vo, vc, rfl⟩ := span_form hown
  have G3 := hide (And.intro (grown_trans G2.out.1 hg3) (And.intro (G2.out.2.1.grown hg3) (And.intro (heap_kept G2.out.2.2 hg3 (by simp)) hown)))
  clear hg3 hown G2
  generalize w2.heap.size = g at *
  obtain ⟨l, hl⟩ : ∃ l, l = prg W L N := ⟨_, rfl⟩
  rw [← hl] at G3
  rw [← hl]
  have hget : ∀ i p, l[i]? = some p → p.1 = ends l i ∧ p.1 < N ∧ bg W L p.1 = true ∧ 1 ≤ p.2 ∧ p.2 ≤ W ∧ bg W L (p.1 + p.2) = true ∧ (∀ d, 1 ≤ d → d < p.2 → bg W L (p.1 + d) = false) ∧ p.1 + p.2 ≤ N := by
    intro i p h
    have hh := HN.out.2
    rw [hl] at h ⊢
    rw [hh] at h ⊢
    exact prg_get hq1 h
  have hend : ends l l.length = N := by rw [hl, HN.out.2]; exact prg_ends hq1 L
  have hcnt : l.length = R * (L.length + 1) := by rw [hl, HN.out.2]; exact prg_count hq1 HO.out.2.2.2.2 R
  have hlen : l.length ≤ N := by rw [hl]; exact prg_len_le W L N
  have HL := hide (And.intro hget (And.intro hend hcnt))
  clear hget hend hcnt hl
  go_wp2
  go_loopg [10, 11] l.length (fun k a i wr => ∃ j : Nat, k + j = l.length ∧ i = .int .i64 (j : Int) ∧ a = .int .i64 ((ends l j : Nat) : Int) ∧ w.grownBy wr none ∧ CbIn wr ao n cap L ∧ wr.heap[g]? = some (.cells #[.int .i64 (R : Int), .int .i64 (W : Int), .slice ao n cap] 24) ∧ w3.grownBy wr none)
  case atStart => exact ⟨0, by omega, rfl, by rw [ends_zero]; rfl, G3.out.1, G3.out.2.1, G3.out.2.2.1, grown_refl _ _⟩
  case round =>
    obtain ⟨j, hkj, rfl, rfl, hg, hcb, hbx, hg3⟩ := hrel
    by_cases hk : 0 < gk
    · have hj : j < l.length := by omega
      obtain ⟨gv, cv, cur, ev, -, hcur, -, ht⟩ := span_row G3.out.2.2.2 (by omega)
      cases ev
      obtain ⟨⟨f, c⟩, hfc⟩ : ∃ p, l[j]? = some p := ⟨_, List.getElem?_eq_getElem hj⟩
      obtain ⟨p1, p2, p3, p4, p5, p6, p7, p8⟩ := HL.out.1 j _ hfc
      simp only at p1 p2 p3 p4 p5 p6 p7 p8
      obtain ⟨s1, s2⟩ := spC_get hfc
      have x1 := span_cell (heap_kept hcur hg3 (by simp)) ht s1
      have x2 := span_cell (heap_kept hcur hg3 (by simp)) ht s2
      simp only at x1 x2
      have hnext := ends_succ hfc
      simp only at hnext
      rw [← p1]
      have HP := hide (And.intro p1 (And.intro p3 (And.intro p6 (And.intro p7 hnext))))
      have hrow := same_row hq1 p4 p7
      clear s1 s2 hcur ht hfc p1 p3 p6 p7 hnext
      obtain ⟨e, he⟩ : ∃ e, e = f + c - 1 := ⟨_, rfl⟩
      rw [← he] at hrow
      obtain ⟨m, hm⟩ : ∃ m, m = f + c := ⟨_, rfl⟩
      have hwm : IntKind.i64.wrap ((f : Int) + (c : Int)) = (m : Int) := by rw [hm]; rw [show (f : Int) + (c : Int) = ((f + c : Nat) : Int) by omega]; exact IntWalk.i64_in _ (by omega)
      have hfe : IntKind.i64.wrap ((m : Int) - 1) = (e : Int) := by rw [show (m : Int) - 1 = (e : Int) by omega]; exact IntWalk.i64_in _ (by omega)
      have hdc : decide ((c : Int) < 1) = false := by simp; omega
      clear hm
      have q1 := tdiv_nat f W
      have q1' : (f : Int) / (W : Int) = ((f / W : Nat) : Int) := rfl
      have q2 := tdiv_nat e W
      have q2' : (e : Int) / (W : Int) = ((e / W : Nat) : Int) := rfl
      rw [← hrow] at q2 q2'
      have hfw : IntKind.i64.wrap ((f / W : Nat) : Int) = ((f / W : Nat) : Int) := IntWalk.i64_in _ (by have := Int.natCast_nonneg (f / W); have := Nat.div_le_self f W; omega)
      clear hrow he
      generalize f / W = rr at *
      have j0 : (0 : Int) ≤ (j : Int) := by omega
      have j1 : (j : Int) < (l.length : Int) := by omega
      have c1' : (1 : Int) ≤ (c : Int) := by omega
      obtain ⟨c0, c1, c2⟩ := box3 hbx
      have hbs := heap_alloc_new wr (.cells #[.int .i64 (f : Int), .int .i64 (c : Int)] 53)
      have hbx2 := heap_kept hbx (grown_alloc wr (.cells #[.int .i64 (f : Int), .int .i64 (c : Int)] 53)) (by simp)
      obtain ⟨d0, d1, d2⟩ := box3 hbx2
      obtain ⟨f0, f1⟩ := box2c hbs
      have HB := hide (And.intro (grown_trans hg (grown_alloc wr (.cells #[.int .i64 (f : Int), .int .i64 (c : Int)] 53))) (And.intro (hcb.grown (grown_alloc wr (.cells #[.int .i64 (f : Int), .int .i64 (c : Int)] 53))) (And.intro hbx2 (And.intro hbs (grown_trans hg3 (grown_alloc wr (.cells #[.int .i64 (f : Int), .int .i64 (c : Int)] 53)))))))
      clear hg hcb hbx hg3 hbs hbx2
      generalize hLn : l.length = ln at *
      have HLn := hide hLn
      clear hLn
      go_wp2
      go_quiet (fail)
      go_wp2
      clear x1 x2 c0 c1 c2 d0 d1 d2 f0 f1 hdc hwm hfe q1 q1' q2 q2' hfw
      obtain ⟨K, rfl⟩ : ∃ K, K = gk := ⟨_, rfl⟩
      obtain ⟨wq, rfl⟩ : ∃ wq, wq = wr := ⟨_, rfl⟩
      go_loopg [13] c (fun k v wi => ∃ t : Nat, k + t = c ∧ v = .int .i64 (t : Int) ∧ (wq.alloc (.cells #[.int .i64 (f : Int), .int .i64 (c : Int)] 53)).grownBy wi none)
      case atStart => exact ⟨0, by omega, rfl, grown_drewN _ _ _⟩
      case round =>
        obtain ⟨t, hkt, rfl, hgi⟩ := hrel
        obtain ⟨b1, b2, b3, b4, b5⟩ := HB.out
        have hbx := heap_kept b3 hgi (by simp)
        have hbs := heap_kept b4 hgi (by simp)
        obtain ⟨c0, c1, c2⟩ := box3 hbx
        obtain ⟨f0, f1⟩ := box2c hbs
        have HI := hide (And.intro hgi (And.intro (b2.grown hgi) (And.intro hbx hbs)))
        clear b1 b2 b3 b4 b5 hbx hbs hgi
        by_cases hkk : 0 < gk
        · have htc : t < c := by omega
          have t1 : (t : Int) < (c : Int) := by omega
          have hs : f + t < N := by omega
          have X := window_ok R W ao n cap L (f + t) wr HI.out.2.1 HO.out (by rw [HN.out.1]; omega)
          have hwins := wins_of hq1 HP.out.2.1 HP.out.2.2.1 HP.out.2.2.2.1 htc
          have hbnd : bg W L (f + t + 1) = !decide (t + 1 < c) := by
            by_cases h : t + 1 < c
            · rw [Nat.add_assoc, HP.out.2.2.2.1 (t + 1) (by omega) h]; simp [h]
            · rw [show f + t + 1 = f + c by omega, HP.out.2.2.1]; simp [h]
          have hbes := bes_next W L (f + t)
          rw [hbnd, Bool.not_not] at hbes
          have Y1 := hide (fun w' (hg' : wr.grownBy w' none) (h : f + t + 1 < N) => beside_ok R W ao n cap L (f + t) (f + t + 1) w' (HI.out.2.1.grown hg') HO.out (by rw [HN.out.1]; omega) (by rw [HN.out.1]; omega))
          have Y2 := hide (fun w' (hg' : wr.grownBy w' none) (h : f + t + 1 < N) => beside_ok R W ao n cap L (f + t + 1) (f + t) w' (HI.out.2.1.grown hg') HO.out (by rw [HN.out.1]; omega) (by rw [HN.out.1]; omega))
          rw [bes_swap W L (f + t + 1) (f + t)] at Y2
          rw [hbes] at Y1 Y2
          have e1 : ((f + t : Nat) : Int) = (f : Int) + (t : Int) := by omega
          have e2 : ((f + t + 1 : Nat) : Int) = (f : Int) + (t : Int) + 1 := by omega
          rw [e1] at X Y1 Y2
          rw [e2] at Y1 Y2
          clear hbnd hbes e1 e2
          generalize win W ((f + t) % W) = wn at *
          generalize (ai L ((f + t) % W) || ai L ((f + t) % W + 1)) = xn at *
          have HXW := hide X
          clear X
          unfold cbV at HXW Y1 Y2
          go_wp2_with fail
          refine HXW.out.mono ?_
          rintro e wA ⟨rfl, hgA⟩
          have HA := hide (And.intro hgA (And.intro (heap_kept HI.out.2.2.1 hgA (by simp)) (heap_kept HI.out.2.2.2 hgA (by simp))))
          clear c0 c1 c2 f0 f1 hgA HXW
          obtain ⟨c0, c1, c2⟩ := box3 HA.out.2.1
          obtain ⟨f0, f1⟩ := box2c HA.out.2.2
          have HW := hide hwins
          clear hwins
          have w1 : IntKind.i64.wrap ((c : Int) - 1) = (c : Int) - 1 := IntWalk.i64_in _ (by omega)
          rcases HW.out with ⟨h0, (hw | ⟨hw, hx⟩)⟩ | ⟨h0, hl, (hw | ⟨hw, hx⟩)⟩ | ⟨h0, hl, hw, hx⟩
          · have k1 : ((t : Int) == 0) = true := by simp; omega
            have k2 : ¬ (0 : Int) < (t : Int) := by omega
            have k3 : decide ((0 : Int) < (t : Int)) = false := by simp; omega
            have k4 : decide (0 < t) = false := by simp; omega
            have k5 : (t == 0) = true := by simp; omega
            clear h0
            subst hw
            clear HW
            by_cases hz : t + 1 < c
            · have z1 : decide (t + 1 < c) = true := by simp; omega
              rw [z1] at Y1 Y2
              have hen : f + t + 1 < N := by omega
              have z2 : (t : Int) + 1 < (c : Int) := by omega
              have z3 : (f : Int) + (t : Int) + 1 < (N : Int) := by omega
              go_wp2_with fail
              refine (Y1.out _ HA.out.1 hen).mono ?_
              rintro e wB ⟨rfl, hgB⟩
              have HB2 := hide (And.intro (grown_trans HA.out.1 hgB) (And.intro (heap_kept HA.out.2.1 hgB (by simp)) (heap_kept HA.out.2.2 hgB (by simp))))
              clear c0 c1 c2 f0 f1 hgB
              obtain ⟨c0, c1, c2⟩ := box3 HB2.out.2.1
              obtain ⟨f0, f1⟩ := box2c HB2.out.2.2
              go_wp2_with fail
              refine (Y2.out _ HB2.out.1 hen).mono ?_
              rintro e wC ⟨rfl, hgC⟩
              have HC2 := hide (And.intro (grown_trans HB2.out.1 hgC) (And.intro (heap_kept HB2.out.2.1 hgC (by simp)) (heap_kept HB2.out.2.2 hgC (by simp))))
              clear c0 c1 c2 f0 f1 hgC
              obtain ⟨c0, c1, c2⟩ := box3 HC2.out.2.1
              obtain ⟨f0, f1⟩ := box2c HC2.out.2.2
              go_wp2
              go_roundg (gk - 1)
              case measure => omega
              case rel => exact ⟨t + 1, by omega, by go_num, grown_trans HI.out.1 HC2.out.1⟩
            · have z1 : decide (t + 1 < c) = false := by simp; omega
              rw [z1] at Y1 Y2
              have z2 : ¬ (t : Int) + 1 < (c : Int) := by omega
              by_cases hen : f + t + 1 < N
              · have z3 : (f : Int) + (t : Int) + 1 < (N : Int) := by omega
                go_wp2_with fail
                refine (Y1.out _ HA.out.1 hen).mono ?_
                rintro e wB ⟨rfl, hgB⟩
                have HB2 := hide (And.intro (grown_trans HA.out.1 hgB) (And.intro (heap_kept HA.out.2.1 hgB (by simp)) (heap_kept HA.out.2.2 hgB (by simp))))
                clear c0 c1 c2 f0 f1 hgB
                obtain ⟨c0, c1, c2⟩ := box3 HB2.out.2.1
                obtain ⟨f0, f1⟩ := box2c HB2.out.2.2
                go_wp2_with fail
                refine (Y2.out _ HB2.out.1 hen).mono ?_
                rintro e wC ⟨rfl, hgC⟩
                have HC2 := hide (And.intro (grown_trans HB2.out.1 hgC) (And.intro (heap_kept HB2.out.2.1 hgC (by simp)) (heap_kept HB2.out.2.2 hgC (by simp))))
                clear c0 c1 c2 f0 f1 hgC
                obtain ⟨c0, c1, c2⟩ := box3 HC2.out.2.1
                obtain ⟨f0, f1⟩ := box2c HC2.out.2.2
                go_wp2
                go_roundg (gk - 1)
                case measure => omega
                case rel => exact ⟨t + 1, by omega, by go_num, grown_trans HI.out.1 HC2.out.1⟩
              · have z3 : ¬ (f : Int) + (t : Int) + 1 < (N : Int) := by omega
                go_wp2
                go_roundg (gk - 1)
                case measure => omega
                case rel => exact ⟨t + 1, by omega, by go_num, grown_trans HI.out.1 HA.out.1⟩
          · have k1 : ((t : Int) == 0) = true := by simp; omega
            have k2 : ¬ (0 : Int) < (t : Int) := by omega
            have k3 : decide ((0 : Int) < (t : Int)) = false := by simp; omega
            have k4 : decide (0 < t) = false := by simp; omega
            have k5 : (t == 0) = true := by simp; omega
            clear h0
            subst hw
            subst hx
            clear HW
            by_cases hz : t + 1 < c
            · have z1 : decide (t + 1 < c) = true := by simp; omega
              rw [z1] at Y1 Y2
              have hen : f + t + 1 < N := by omega
              have z2 : (t : Int) + 1 < (c : Int) := by omega
              have z3 : (f : Int) + (t : Int) + 1 < (N : Int) := by omega
              go_wp2_with fail
              refine (Y1.out _ HA.out.1 hen).mono ?_
              rintro e wB ⟨rfl, hgB⟩
              have HB2 := hide (And.intro (grown_trans HA.out.1 hgB) (And.intro (heap_kept HA.out.2.1 hgB (by simp)) (heap_kept HA.out.2.2 hgB (by simp))))
              clear c0 c1 c2 f0 f1 hgB
              obtain ⟨c0, c1, c2⟩ := box3 HB2.out.2.1
              obtain ⟨f0, f1⟩ := box2c HB2.out.2.2
              go_wp2_with fail
              refine (Y2.out _ HB2.out.1 hen).mono ?_
              rintro e wC ⟨rfl, hgC⟩
              have HC2 := hide (And.intro (grown_trans HB2.out.1 hgC) (And.intro (heap_kept HB2.out.2.1 hgC (by simp)) (heap_kept HB2.out.2.2 hgC (by simp))))
              clear c0 c1 c2 f0 f1 hgC
              obtain ⟨c0, c1, c2⟩ := box3 HC2.out.2.1
              obtain ⟨f0, f1⟩ := box2c HC2.out.2.2
              go_wp2
              go_roundg (gk - 1)
              case measure => omega
              case rel => exact ⟨t + 1, by omega, by go_num, grown_trans HI.out.1 HC2.out.1⟩
            · have z1 : decide (t + 1 < c) = false := by simp; omega
              rw [z1] at Y1 Y2
              have z2 : ¬ (t : Int) + 1 < (c : Int) := by omega
              by_cases hen : f + t + 1 < N
              · have z3 : (f : Int) + (t : Int) + 1 < (N : Int) := by omega
                go_wp2_with fail
                refine (Y1.out _ HA.out.1 hen).mono ?_
                rintro e wB ⟨rfl, hgB⟩
                have HB2 := hide (And.intro (grown_trans HA.out.1 hgB) (And.intro (heap_kept HA.out.2.1 hgB (by simp)) (heap_kept HA.out.2.2 hgB (by simp))))
                clear c0 c1 c2 f0 f1 hgB
                obtain ⟨c0, c1, c2⟩ := box3 HB2.out.2.1
                obtain ⟨f0, f1⟩ := box2c HB2.out.2.2
                go_wp2_with fail
                refine (Y2.out _ HB2.out.1 hen).mono ?_
                rintro e wC ⟨rfl, hgC⟩
                have HC2 := hide (And.intro (grown_trans HB2.out.1 hgC) (And.intro (heap_kept HB2.out.2.1 hgC (by simp)) (heap_kept HB2.out.2.2 hgC (by simp))))
                clear c0 c1 c2 f0 f1 hgC
                obtain ⟨c0, c1, c2⟩ := box3 HC2.out.2.1
                obtain ⟨f0, f1⟩ := box2c HC2.out.2.2
                go_wp2
                go_roundg (gk - 1)
                case measure => omega
                case rel => exact ⟨t + 1, by omega, by go_num, grown_trans HI.out.1 HC2.out.1⟩
              · have z3 : ¬ (f : Int) + (t : Int) + 1 < (N : Int) := by omega
                go_wp2
                go_roundg (gk - 1)
                case measure => omega
                case rel => exact ⟨t + 1, by omega, by go_num, grown_trans HI.out.1 HA.out.1⟩
          · have k1 : ((t : Int) == 0) = false := by simp; omega
            have k2 : (0 : Int) < (t : Int) := by omega
            have k6 : ¬ (t : Int) < (c : Int) - 1 := by omega
            have k7 : ((t : Int) == (c : Int) - 1) = true := by simp; omega
            have k8 : decide ((t : Int) < (c : Int) - 1) = false := by simp; omega
            have hl2 : ¬ t + 1 < c := by omega
            clear hl
            subst hw
            clear HW
            have z1 : decide (t + 1 < c) = false := by simp; omega
            rw [z1] at Y1 Y2
            have z2 : ¬ (t : Int) + 1 < (c : Int) := by omega
            by_cases hen : f + t + 1 < N
            · have z3 : (f : Int) + (t : Int) + 1 < (N : Int) := by omega
              go_wp2_with fail
              refine (Y1.out _ HA.out.1 hen).mono ?_
              rintro e wB ⟨rfl, hgB⟩
              have HB2 := hide (And.intro (grown_trans HA.out.1 hgB) (And.intro (heap_kept HA.out.2.1 hgB (by simp)) (heap_kept HA.out.2.2 hgB (by simp))))
              clear c0 c1 c2 f0 f1 hgB
              obtain ⟨c0, c1, c2⟩ := box3 HB2.out.2.1
              obtain ⟨f0, f1⟩ := box2c HB2.out.2.2
              go_wp2_with fail
              refine (Y2.out _ HB2.out.1 hen).mono ?_
              rintro e wC ⟨rfl, hgC⟩
              have HC2 := hide (And.intro (grown_trans HB2.out.1 hgC) (And.intro (heap_kept HB2.out.2.1 hgC (by simp)) (heap_kept HB2.out.2.2 hgC (by simp))))
              clear c0 c1 c2 f0 f1 hgC
              obtain ⟨c0, c1, c2⟩ := box3 HC2.out.2.1
              obtain ⟨f0, f1⟩ := box2c HC2.out.2.2
              go_wp2
              go_roundg (gk - 1)
              case measure => omega
              case rel => exact ⟨t + 1, by omega, by go_num, grown_trans HI.out.1 HC2.out.1⟩
            · have z3 : ¬ (f : Int) + (t : Int) + 1 < (N : Int) := by omega
              go_wp2
              go_roundg (gk - 1)
              case measure => omega
              case rel => exact ⟨t + 1, by omega, by go_num, grown_trans HI.out.1 HA.out.1⟩
          · have k1 : ((t : Int) == 0) = false := by simp; omega
            have k2 : (0 : Int) < (t : Int) := by omega
            have k6 : ¬ (t : Int) < (c : Int) - 1 := by omega
            have k7 : ((t : Int) == (c : Int) - 1) = true := by simp; omega
            have k8 : decide ((t : Int) < (c : Int) - 1) = false := by simp; omega
            have hl2 : ¬ t + 1 < c := by omega
            clear hl
            subst hw
            subst hx
            clear HW
            have z1 : decide (t + 1 < c) = false := by simp; omega
            rw [z1] at Y1 Y2
            have z2 : ¬ (t : Int) + 1 < (c : Int) := by omega
            by_cases hen : f + t + 1 < N
            · have z3 : (f : Int) + (t : Int) + 1 < (N : Int) := by omega
              go_wp2_with fail
              refine (Y1.out _ HA.out.1 hen).mono ?_
              rintro e wB ⟨rfl, hgB⟩
              have HB2 := hide (And.intro (grown_trans HA.out.1 hgB) (And.intro (heap_kept HA.out.2.1 hgB (by simp)) (heap_kept HA.out.2.2 hgB (by simp))))
              clear c0 c1 c2 f0 f1 hgB
              obtain ⟨c0, c1, c2⟩ := box3 HB2.out.2.1
              obtain ⟨f0, f1⟩ := box2c HB2.out.2.2
              go_wp2_with fail
              refine (Y2.out _ HB2.out.1 hen).mono ?_
              rintro e wC ⟨rfl, hgC⟩
              have HC2 := hide (And.intro (grown_trans HB2.out.1 hgC) (And.intro (heap_kept HB2.out.2.1 hgC (by simp)) (heap_kept HB2.out.2.2 hgC (by simp))))
              clear c0 c1 c2 f0 f1 hgC
              obtain ⟨c0, c1, c2⟩ := box3 HC2.out.2.1
              obtain ⟨f0, f1⟩ := box2c HC2.out.2.2
              go_wp2
              go_roundg (gk - 1)
              case measure => omega
              case rel => exact ⟨t + 1, by omega, by go_num, grown_trans HI.out.1 HC2.out.1⟩
            · have z3 : ¬ (f : Int) + (t : Int) + 1 < (N : Int) := by omega
              go_wp2
              go_roundg (gk - 1)
              case measure => omega
              case rel => exact ⟨t + 1, by omega, by go_num, grown_trans HI.out.1 HA.out.1⟩
          · have k1 : ((t : Int) == 0) = false := by simp; omega
            have k2 : (0 : Int) < (t : Int) := by omega
            have k6 : (t : Int) < (c : Int) - 1 := by omega
            have k7 : ((t : Int) == (c : Int) - 1) = false := by simp; omega
            subst hw
            subst hx
            clear HW
            have z1 : decide (t + 1 < c) = true := by simp; omega
            rw [z1] at Y1 Y2
            have hen : f + t + 1 < N := by omega
            have z2 : (t : Int) + 1 < (c : Int) := by omega
            have z3 : (f : Int) + (t : Int) + 1 < (N : Int) := by omega
            go_wp2_with fail
            refine (Y1.out _ HA.out.1 hen).mono ?_
            rintro e wB ⟨rfl, hgB⟩
            have HB2 := hide (And.intro (grown_trans HA.out.1 hgB) (And.intro (heap_kept HA.out.2.1 hgB (by simp)) (heap_kept HA.out.2.2 hgB (by simp))))
            clear c0 c1 c2 f0 f1 hgB
            obtain ⟨c0, c1, c2⟩ := box3 HB2.out.2.1
            obtain ⟨f0, f1⟩ := box2c HB2.out.2.2
            go_wp2_with fail
            refine (Y2.out _ HB2.out.1 hen).mono ?_
            rintro e wC ⟨rfl, hgC⟩
            have HC2 := hide (And.intro (grown_trans HB2.out.1 hgC) (And.intro (heap_kept HB2.out.2.1 hgC (by simp)) (heap_kept HB2.out.2.2 hgC (by simp))))
            clear c0 c1 c2 f0 f1 hgC
            obtain ⟨c0, c1, c2⟩ := box3 HC2.out.2.1
            obtain ⟨f0, f1⟩ := box2c HC2.out.2.2
            go_wp2
            go_roundg (gk - 1)
            case measure => omega
            case rel => exact ⟨t + 1, by omega, by go_num, grown_trans HI.out.1 HC2.out.1⟩
        · have htc : t = c := by omega
          subst htc
          have hnl : ¬ (t : Int) < (t : Int) := by omega
          go_wp2
          go_roundg (K - 1)
          case measure => omega
          case rel =>
            refine ⟨j + 1, by omega, by go_num, by rw [HP.out.2.2.2.2, ← HP.out.1]; go_num, ?_, HI.out.2.1, HI.out.2.2.1, ?_⟩
            · exact grown_trans HB.out.1 HI.out.1
            · exact grown_trans HB.out.2.2.2.2 HI.out.1
    · have hj : j = l.length := by omega
      subst hj
      have hn := hcb.len
      have hcnt := HL.out.2.2
      rw [hn] at hcnt
      have hw5 : IntKind.i64.wrap ((R : Int) * ((n : Int) + 1)) = (l.length : Int) := by
        have e1 : (R : Int) * ((n : Int) + 1) = ((R * (n + 1) : Nat) : Int) := by rw [Int.natCast_mul]; rfl
        rw [e1, ← hcnt]; exact IntWalk.i64_in _ (by omega)
      have hn5 : (n : Int) ≤ 17592186044000 := by have := hcb.sm; omega
      have hn6 : IntKind.i64.wrap ((n : Int) + 1) = (n : Int) + 1 := IntWalk.i64_in _ (by omega)
      rw [HL.out.2.1]
      obtain ⟨c0, c1, c2⟩ := box3 hbx
      have HG := hide hg
      have hnl : ¬ (l.length : Int) < (l.length : Int) := by omega
      clear hg hcb hbx hg3 hn hcnt
      generalize l.length = ln at *
      go_wp2
      go_ret
      exact ⟨rfl, HG.out⟩
end Go.Proofs.YtomoclicbjkpoaaDoor
