/- Fares: FaresSure walked. -/
import Derived.Test.YtbebblhnhpdpjaaVn
namespace Go.Proofs.Ytbebblhnhpdpjaa
open Go.RowKit Ieee
attribute [local go_sem ↓] Go.wp_at_zero Go.wp_at_succ
attribute [local go_sem] run_store_float

theorem fares_one {w : World} {b p : Nat} {cs : List Nat} (h : Fb w b cs) (hl : cs.length ≤ 1024) :
    FasAt (w.alloc (.cells #[Value.float .f64 p, Value.slice (some ⟨b, 0, none⟩) cs.length cs.length] 48)) (some ⟨w.heap.size, 0, none⟩) [(p, cs)] ∧ w.grownBy (w.alloc (.cells #[Value.float .f64 p, Value.slice (some ⟨b, 0, none⟩) cs.length cs.length] 48)) none := by
  obtain ⟨x0, x1, x2⟩ := box_fa w (.float .f64 p) (.slice (some ⟨b, 0, none⟩) cs.length cs.length)
  refine ⟨?_, x2⟩
  intro j c hj
  match j, hj with
  | 0, hj =>
    simp at hj; subst hj
    exact ⟨_, 0, _, _, rfl, ⟨x0, x1, ⟨(h.kept x2 (by simp)).at_, (fun e => by cases e), by dsimp only; omega, Nat.le_refl _⟩⟩⟩
  | j + 1, hj => simp at hj
theorem row_one (w : World) (p k : Nat) (hk : k ≤ 255) :
    FasAt ((w.alloc (.cells ((fv (List.replicate (k + 1) 0)).set k (.float .f64 4607182418800017408)).toArray 33)).alloc (.cells #[Value.float .f64 p, Value.slice (some ⟨w.heap.size, 0, none⟩) (k + 1) (k + 1)] 48)) (some ⟨w.heap.size + 1, 0, none⟩) [(p, un k)] ∧
    w.grownBy ((w.alloc (.cells ((fv (List.replicate (k + 1) 0)).set k (.float .f64 4607182418800017408)).toArray 33)).alloc (.cells #[Value.float .f64 p, Value.slice (some ⟨w.heap.size, 0, none⟩) (k + 1) (k + 1)] 48)) none := by
  have e : (fv (List.replicate (k + 1) 0)).set k (.float .f64 4607182418800017408) = fv (un k) := fv_set _ _ _
  rw [e]
  have h : Fb (w.alloc (.cells (fv (un k)).toArray 33)) w.heap.size (un k) := heap_alloc_new w _
  have h2 := fares_one (p := p) h (by rw [un_length]; omega)
  have hs : (w.alloc (.cells (fv (un k)).toArray 33)).heap.size = w.heap.size + 1 := Array.size_push ..
  rw [un_length, hs] at h2
  exact ⟨h2.1, grown_trans (grown_alloc w _) h2.2⟩
theorem not_f {b : Bool} (h : false = !b) : b = true := by cases b <;> simp_all
theorem not_t {b : Bool} (h : true = !b) : b = false := by cases b <;> simp_all
theorem pick_nat (x : Int) (n : Nat) (hn : 1 ≤ n) (hn2 : n ≤ 65536) : ∃ m : Nat, m < n ∧ ∀ w, Calls Try.prog 26 #[.int .i64 x, .int .i64 (n : Int)] w fun e w' => e = .returned (.int .i64 (m : Int)) ∧ w' = w := by
  have h1 := Int.emod_nonneg x (show (n : Int) ≠ 0 by omega)
  have h2 := Int.emod_lt_of_pos x (show (0 : Int) < (n : Int) by omega)
  refine ⟨(x % (n : Int)).toNat, by omega, fun w => ?_⟩
  have h := pick_any x (n : Int) n w rfl hn hn2
  rwa [show ((x % (n : Int)).toNat : Int) = x % (n : Int) by omega]

set_option maxRecDepth 20000 in
set_option maxHeartbeats 4000000 in
theorem faresSure_any (p : Nat) (k s : Int) (w : World) : Calls Try.prog 6 #[.float .f64 p, .int .i64 k, .int .i64 s] w fun e w' => e = .returned (.bool true) ∧ w.grownBy w' none := by
  obtain ⟨kk, hk2, hp1⟩ := pick_nat k 256 (by omega) (by omega)
  obtain ⟨ss, hs2, hp2⟩ := pick_nat s 1025 (by omega) (by omega)
  have HP1 := hide hp1
  have HP2 := hide hp2
  clear hp1 hp2
  go_enter Try.func6, Try.ntmps6
  go_wp2_with fail
  refine (awake_any w).mono ?_
  rintro e w1 ⟨rfl, hg1⟩
  have HG1 := hide hg1
  clear hg1
  go_wp2_with fail
  refine (HP1.out w1).mono ?_
  rintro e w' ⟨rfl, hw'⟩
  obtain rfl := hw'
  go_wp2_with fail
  refine (HP2.out w').mono ?_
  rintro e w2 ⟨rfl, hw2⟩
  obtain rfl := hw2
  have hmk := make_reals (kk + 1) (by omega) w2
  have hw1 : IntKind.i64.wrap ((kk : Int) + 1) = ((kk + 1 : Nat) : Int) := by rw [IntKind.wrap_i64]; omega
  have f0 : Fb (w2.alloc (.cells (fv (List.replicate (kk + 1) 0)).toArray 33)) w2.heap.size (List.replicate (kk + 1) 0) := heap_alloc_new w2 _
  have hfr := f0.free kk
  have hcc := f0.cell (j := kk) (by simp)
  have hnat : ((kk + 1 : Nat) : Int) = (kk : Int) + 1 := by omega
  rw [hnat] at hmk hw1
  clear hnat
  obtain ⟨r1, r2⟩ := row_one w2 p kk (by omega)
  have HV := hide (values_any _ _ 1 1 [(p, un kk)] (ss : Int) _ rfl r1 (by omega) (grown_refl _ _))
  have HF := hide r1
  have HG2 := hide (grown_trans HG1.out r2)
  clear f0 r1 r2 HG1 HP1 HP2
  go_wp2_with fail
  refine HV.out.mono ?_
  clear HV hmk hw1 hfr hcc
  generalize ((w2.alloc (.cells ((fv (List.replicate (kk + 1) 0)).set kk (.float .f64 4607182418800017408)).toArray 33)).alloc (.cells #[Value.float .f64 p, Value.slice (some ⟨w2.heap.size, 0, none⟩) (kk + 1) (kk + 1)] 48)) = w3 at *
  rintro e w4 ⟨hv, hg4⟩
  have HL := hide (limits_any w4 _ 1 1 [(p, un kk)] (ss : Int) w4 rfl (HF.out.grown hg4) (by omega) (grown_refl _ _))
  have HG4 := hide hg4
  have hsp := price_split p 4787326403894837248 pr_p40.nn.fin
  have hmb := mayB_un p kk (by omega)
  have hcE : cE [(p, un kk)] (ss : Int) = if within p 0 4787326403894837248 = true then 0 else 260 := by
    unfold cE
    rw [hmb, if_neg (show ¬ ((ss : Int) < 0 ∨ 1024 < (ss : Int)) by omega)]
  clear hg4
  rcases hv with ⟨hne, rfl⟩ | ⟨hz, s', b, hse, -, rfl, hfb, -⟩
  · have hwi : within p 0 4787326403894837248 = false := by
      cases h : within p 0 4787326403894837248
      · rfl
      · rw [hcE, h] at hne; exact absurd rfl hne
    rw [hwi] at hcE hsp
    have hcE2 : cE [(p, un kk)] (ss : Int) = 260 := hcE
    have HC := hide hcE2
    have hor : ((FloatKind.f64.format.order p p != some .eq) || (FloatKind.f64.format.order p 0 == some .lt) || (FloatKind.f64.format.order p 4787326403894837248 == some .gt)) = true := not_f hsp
    rw [hcE2]
    clear hcE hcE2 hsp hmb hne hwi
    go_wp2_with fail
    refine HL.out.mono ?_
    rintro e w5 ⟨hv, hg5⟩
    have HG5 := hide (grown_trans HG2.out (grown_trans HG4.out hg5))
    clear hg5 HL HG2 HG4
    rcases hv with ⟨-, rfl⟩ | ⟨hz, -⟩
    · rw [HC.out]
      clear HC
      generalize ha : (FloatKind.f64.format.order p p != some .eq) = a at *
      generalize hb : (FloatKind.f64.format.order p 0 == some .lt) = b at *
      generalize hc : (FloatKind.f64.format.order p 4787326403894837248 == some .gt) = c at *
      cases a
      · cases b
        · obtain rfl : c = true := by simpa using hor
          clear hor
          go_wp2
          go_ret
          exact ⟨rfl, HG5.out⟩
        · clear hor hc
          go_wp2
          go_ret
          exact ⟨rfl, HG5.out⟩
      · clear hor hb hc
        go_wp2
        go_ret
        exact ⟨rfl, HG5.out⟩
    · exact absurd hz (by rw [HC.out]; omega)
  · have hss : s' = ss := by omega
    subst hss
    have hwi : within p 0 4787326403894837248 = true := by
      cases h : within p 0 4787326403894837248
      · rw [hcE, h] at hz; exact absurd hz (by simp)
      · rfl
    rw [hwi] at hsp
    have HZ := hide hz
    have hpr := within_pr pr_p40 hwi
    have HPR := hide hpr
    have HFB := hide hfb
    have hor : ((FloatKind.f64.format.order p p != some .eq) || (FloatKind.f64.format.order p 0 == some .lt) || (FloatKind.f64.format.order p 4787326403894837248 == some .gt)) = false := not_t hsp
    simp only [Bool.or_eq_false_iff] at hor
    obtain ⟨⟨ha, hb⟩, hc⟩ := hor
    clear hcE hsp hmb hz hwi hpr hfb hse
    go_wp2_with fail
    refine HL.out.mono ?_
    rintro e w5 ⟨hv, hg5⟩
    have HG5 := hide (grown_trans HG2.out (grown_trans HG4.out hg5))
    rcases hv with ⟨hne, -⟩ | ⟨-, s2, x, hse, -, rfl, hown⟩
    · exact absurd HZ.out hne
    have hs2' : s2 = s' := by omega
    subst hs2'
    have e1 : lms s2 [(p, un kk)] [(p, un kk)].length = [s2] := by
      show [lm s2 [(p, un kk)] 0] = [s2]
      rw [lm_first]
    rw [e1] at hown
    obtain ⟨ao, cap, rfl, -, hc1, hc2, hat, -, hbl⟩ := ownI_at hown
    obtain ⟨a, rfl, hcell⟩ := hat 0 s2 rfl
    obtain ⟨ea, -, -⟩ := hbl a rfl
    rw [ea, Addr.add_lit] at hcell
    generalize a.block = ab at *
    subst ea
    have HFB5 := hide (HFB.out.kept hg5 (by simp))
    clear hg5 hat hown hbl HL HG4 HG2 HFB hse hc1 hc2
    go_wp2
    clear ha hb hc
    go_loopg [13] (s2 + 1) (fun k i wr => ∃ j : Nat, k + j = s2 + 1 ∧ i = .int .i64 (j : Int) ∧ wr = w5)
    case atStart => exact ⟨0, by omega, rfl, rfl⟩
    case round =>
      obtain ⟨j, hkj, rfl, rfl⟩ := hrel
      by_cases hgo : 0 < gk
      · have hj : j ≤ s2 := by omega
        have hj2 : (j : Int) ≤ (s2 : Int) := by omega
        have hx := HFB5.out.cell (j := j) (by rw [vs_length]; omega)
        rw [vs_un p s2 kk j hj] at hx
        obtain ⟨u, hu1, hu2⟩ := mul_tm (k := min kk j) (by omega) HPR.out
        have hm1 : ∀ w, (binOp .mul 33 (.float .f64 (floatOfInt .f64 ((min kk j : Nat) : Int))) (.float .f64 p)).run Try.prog w = .ok (.float .f64 u) w := run_mul hu1
        have hmin := run_min kk j
        have hlt : j < s2 + 1 := by omega
        clear hu1
        generalize tm (min kk j) (ru p) = y at *
        generalize min kk j = mj at *
        go_wp2
        go_roundg (gk - 1)
        case measure => omega
        case rel => exact ⟨j + 1, by omega, by go_num, rfl⟩
      · have hj : ¬ (j : Int) ≤ (s2 : Int) := by omega
        go_wp2
        go_ret
        exact ⟨rfl, HG5.out⟩
end Go.Proofs.Ytbebblhnhpdpjaa
