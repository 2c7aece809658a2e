/- Texts joined: Rg8, Rg9, Hq, Nn. -/
import Derived.Test.YtonokaelbpfjnaaGreatDoorJhAl
/- A region's write. -/
namespace Go.Proofs.YtonokaelbpfjnaaGreatDoor
open Go.RowKit Ap
attribute [local go_sem ↓] Go.wp_at_zero Go.wp_at_succ

section
variable {w0 w w' : World} {n size b r F C : Nat} {s s' : Dv} {k : Dk} {D : List Nat} {W : List Wt}
set_option maxRecDepth 20000 in
set_option maxHeartbeats 4000000 in
theorem gWrite_any (h : Dev w0 w n size b s k D W) (hr : RgAt w r b F C) (hC : C ≤ 65536) (at_ m cap : Nat) (ao : Option Addr) (hfit : at_ + m ≤ C * size) (hm : m ≤ 268435456) (Post : Int → World → Prop)
    (heach : ∀ w1 br bb, w.grownBy w1 none → w1.heap[br]? = some (.cells #[.pointer (some ⟨r, 0, none⟩)] 77 (0, 0)) → w1.heap[bb]? = some (.cells #[.slice ao m cap] 36 (0, 0)) →
      Calls Tryz.prog 139 #[.pointer (some ⟨r, 0, none⟩), .int .i64 (at_ : Int), .int .i64 (m : Int), .func (.func 151) #[] #[.pointer (some ⟨bb, 0, none⟩), .pointer (some ⟨br, 0, none⟩)]] w1 fun e w' => ∃ c : Int, e = .returned (.int .i64 c) ∧ (Post c w' ∧ w'.heap[br]? = some (.cells #[.pointer (some ⟨r, 0, none⟩)] 77 (0, 0)) ∧ w'.heap[bb]? = some (.cells #[.slice ao m cap] 36 (0, 0)))) :
    Calls Tryz.prog 143 #[.pointer (some ⟨r, 0, none⟩), .int .i64 (at_ : Int), .slice ao m cap] w fun e w' => ∃ c, e = .returned (.int .i64 c) ∧ Post c w' := by
  have hB : C * size ≤ 65536 * 4096 := Nat.mul_le_mul hC h.disk.disk.shape.s1
  have e0 : mcode (C * size) at_ m = 0 := by unfold mcode; rw [if_pos (by omega)]
  have HM : Hid (∀ w1 : World, w.grownBy w1 none → Calls Tryz.prog 138 #[.pointer (some ⟨r, 0, none⟩), .int .i64 (at_ : Int), .int .i64 (m : Int)] w1 fun e w' => e = .returned (.int .i64 0) ∧ w1.grownBy w' none) := by
    intro w1 hg
    have := gmay_at (h.then hg) (hr.grown hg) hC at_ m (by omega)
    rw [e0] at this
    exact this.mono (by rintro e w' ⟨rfl, q, rfl⟩; exact ⟨rfl, grown_drewN _ _ _⟩)
  have HE := hide heach
  have g1 := World.grownBy_alloc w (.cells #[.pointer (some ⟨r, 0, none⟩)] 77) none
  have g2 := World.grownBy_alloc (w.alloc (.cells #[.pointer (some ⟨r, 0, none⟩)] 77)) (.cells #[.slice ao m cap] 36) none
  have z1 : (w.alloc (.cells #[.pointer (some ⟨r, 0, none⟩)] 77)).heap.size = w.heap.size + 1 := Array.size_push ..
  have n1 : (w.alloc (.cells #[.pointer (some ⟨r, 0, none⟩)] 77)).heap[w.heap.size]? = some (.cells #[.pointer (some ⟨r, 0, none⟩)] 77 (0, 0)) := heap_alloc_new w _
  have n2 := heap_alloc_new (w.alloc (.cells #[.pointer (some ⟨r, 0, none⟩)] 77)) (.cells #[.slice ao m cap] 36)
  rw [z1] at n2
  have n1' := (g2.block _ (row_lt n1) (by simp)).trans n1
  have G1 := hide (grown_trans g1 g2)
  have N1 := hide (And.intro n1' n2)
  have c0 : ((w.alloc (.cells #[.pointer (some ⟨r, 0, none⟩)] 77)).alloc (.cells #[.slice ao m cap] 36)).cell? ⟨w.heap.size, 0, none⟩ = some (.pointer (some ⟨r, 0, none⟩)) := cell_row (l := [_]) n1' 0
  have c1 : ((w.alloc (.cells #[.pointer (some ⟨r, 0, none⟩)] 77)).alloc (.cells #[.slice ao m cap] 36)).cell? ⟨w.heap.size + 1, 0, none⟩ = some (.slice ao m cap) := cell_row (l := [_]) n2 0
  clear h hr heach e0 g1 g2 z1 n1 n2 n1'
  go_enter Tryz.func143, Tryz.ntmps143
  go_wp2_with fail
  generalize (w.alloc (.cells #[.pointer (some ⟨r, 0, none⟩)] 77)).alloc (.cells #[.slice ao m cap] 36) = w1 at *
  generalize w.heap.size + 1 = bb at *
  generalize w.heap.size = br at *
  refine (HM.out _ G1.out).mono ?_
  rintro e w2 ⟨rfl, g2⟩
  have N2 : Hid (w2.heap[br]? = some (.cells #[.pointer (some ⟨r, 0, none⟩)] 77 (0, 0)) ∧ w2.heap[bb]? = some (.cells #[.slice ao m cap] 36 (0, 0)) ∧ w.grownBy w2 none) := ⟨(g2.block _ (row_lt N1.out.1) (by simp)).trans N1.out.1, (g2.block _ (row_lt N1.out.2) (by simp)).trans N1.out.2, grown_trans G1.out g2⟩
  have b0 : w2.cell? ⟨br, 0, none⟩ = some (.pointer (some ⟨r, 0, none⟩)) := cell_row (l := [_]) N2.out.1 0
  have b1 : w2.cell? ⟨bb, 0, none⟩ = some (.slice ao m cap) := cell_row (l := [_]) N2.out.2.1 0
  clear g2 c0 c1 N1 G1 HM
  have hS0 := And.intro b0 b1
  have HX : Hid (∀ w3 : World, w2.grownBy w3 none → Calls Tryz.prog 139 #[.pointer (some ⟨r, 0, none⟩), .int .i64 (at_ : Int), .int .i64 (m : Int), .func (.func 151) #[] #[.pointer (some ⟨bb, 0, none⟩), .pointer (some ⟨br, 0, none⟩)]] w3 fun e w' => ∃ c : Int, e = .returned (.int .i64 c) ∧ (Post c w' ∧ w'.heap[br]? = some (.cells #[.pointer (some ⟨r, 0, none⟩)] 77 (0, 0)) ∧ w'.heap[bb]? = some (.cells #[.slice ao m cap] 36 (0, 0)))) :=
    fun w3 hg3 => HE.out w3 br bb (grown_trans N2.out.2.2 hg3) ((hg3.block _ (row_lt N2.out.1) (by simp)).trans N2.out.1) ((hg3.block _ (row_lt N2.out.2.1) (by simp)).trans N2.out.2.1)
  go_wp2_with fail
  go_region_held3 (fun w' => w'.cell? ⟨br, 0, none⟩ = some (.pointer (some ⟨r, 0, none⟩)) ∧ w'.cell? ⟨bb, 0, none⟩ = some (.slice ao m cap)) (first | assumption | go_keep) (first
    | (go_at_call 139; refine (HX.out _ (grown_drew _ _)).mono ?_; rintro e w3 ⟨c, rfl, hq⟩; have H3 := hide hq; clear hq; have hS3 : w3.cell? ⟨br, 0, none⟩ = some (.pointer (some ⟨r, 0, none⟩)) ∧ w3.cell? ⟨bb, 0, none⟩ = some (.slice ao m cap) := ⟨cell_row (l := [_]) H3.out.2.1 0, cell_row (l := [_]) H3.out.2.2 0⟩))
  rename_i hHeld
  clear hHeld hS3 hS0 b0 b1 HX
  go_wp2
  go_ret
  exact ⟨_, rfl, H3.out.1⟩
theorem splice_over (A b : List Nat) (o d : Nat) (h : o + b.length ≤ A.length) : splice (splice A o (b.take d)) o b = splice A o b := by
  have hl : (b.take d).length ≤ b.length := by simp; omega
  apply List.ext_getElem?
  intro i
  rw [splice_get _ _ _ _ (by rw [length_splice _ _ _ (by omega)]; omega), splice_get _ _ _ _ (by omega), splice_get _ _ _ _ (by omega)]
  by_cases hx : o ≤ i ∧ i < o + b.length
  · rw [if_pos hx, if_pos hx]
  · rw [if_neg hx, if_neg hx, if_neg (by omega)]
/-- What a write leaves. -/
structure WriteP (w0 w w' : World) (n size b : Nat) (s : Dv) (k : Dk) (D : List Nat) (W : List Wt) (F at_ : Nat) (xs : List Nat) (c : Int) : Prop where
  code : c = (wgo (full size at_ xs.length) (pcn size at_ xs.length) 0 s).2.1
  left : ∃ k' W', Dev w0 w' n size b (wgo (full size at_ xs.length) (pcn size at_ xs.length) 0 s).2.2 k' D W' ∧ DvM w w' b k k' W W' ∧ abs W' = abs W ++ pcs size F at_ (splice (now size D (abs W)) (F * size + at_) xs) (wgo (full size at_ xs.length) (pcn size at_ xs.length) 0 s).1
theorem pair_eta {α β : Type} (p : α × β) : (p.1, p.2) = p := rfl
/-- What one piece does to the device. -/
theorem wgo_step (f : Nat → Bool) (M j : Nat) (sj : Dv) : wgo f (M + 1) j sj = if sj.goes then (if f j then ((wgo f M (j + 1) sj.next).1 + 1, (wgo f M (j + 1) sj.next).2) else if sj.next.goes then ((wgo f M (j + 1) sj.next.next).1 + 1, (wgo f M (j + 1) sj.next.next).2) else (0, 60, sj.next.next)) else (0, 60, sj.next) := rfl
theorem Dv.next_le (s : Dv) : s.next.cnt ≤ s.cnt + 1 := s.next_cnt
theorem Dv.code_ok {s : Dv} (h : s.goes = true) : s.code 0 = 0 := by simp [Dv.code, h]
theorem Dv.code_no {s : Dv} (h : s.goes = false) : s.code 0 = 60 := by simp [Dv.code, h]
theorem ifP_t (x y : List Pr) : ifP true x y = x := rfl
theorem ifP_f (x y : List Pr) : ifP false x y = y := rfl
set_option maxHeartbeats 2000000 in
theorem gWrite_at (h : Dev w0 w n size b s k D W) (hr : RgAt w r b F C) (hFC : F + C ≤ n) (at_ cap : Nat) (ao : Option Addr) (xs : List Nat) (hat : At w ao xs) (hcap : xs.length ≤ cap) (hfit : at_ + xs.length ≤ C * size) (hoff : ∀ a, ao = some a → 0 < xs.length → ¬ k.own a.block ∧ a.block ≠ b)
    (hW : W.length + pcn size at_ xs.length ≤ 900000) (hcnt : s.cnt + 2 * pcn size at_ xs.length < 100000) :
    Calls Tryz.prog 143 #[.pointer (some ⟨r, 0, none⟩), .int .i64 (at_ : Int), .slice ao xs.length cap] w fun e w' => ∃ c, e = .returned (.int .i64 c) ∧ WriteP w0 w w' n size b s k D W F at_ xs c := by
  have sh := h.disk.disk.shape
  have s0 := sh.s0
  have s1 := sh.s1
  have n1 := sh.n1
  have hall : C * size ≤ n * size := Nat.mul_le_mul_right _ (by omega)
  have hB : n * size ≤ 67108864 := sh.all
  have hFn : (F + C) * size ≤ n * size := Nat.mul_le_mul_right _ hFC
  rw [Nat.add_mul] at hFn
  have hA := now_len h.disk.disk.len h.disk.disk.fitsW
  obtain ⟨B, hBd⟩ : ∃ B, B = splice (now size D (abs W)) (F * size + at_) xs := ⟨_, rfl⟩
  obtain ⟨f, hf⟩ : ∃ f, f = full size at_ xs.length := ⟨_, rfl⟩
  obtain ⟨M, hM⟩ : ∃ M, M = pcn size at_ xs.length := ⟨_, rfl⟩
  refine gWrite_any h hr (by omega) at_ xs.length cap ao hfit (by omega) _ ?_
  intro w1 br bb hg1 hbr hbb
  have h1 := h.then hg1
  have hr1 := hr.grown hg1
  have hat1 := hat.grown hg1
  have hd := each_any w1 r b F at_ xs.length size n 151 (.pointer (some ⟨bb, 0, none⟩)) (.pointer (some ⟨br, 0, none⟩))
    (fun j w' => ∃ sj kj Wj, wgo f M 0 s = (j + (wgo f (M - j) j sj).1, (wgo f (M - j) j sj).2) ∧ sj.cnt ≤ s.cnt + 2 * j ∧ Dev w0 w' n size b sj kj D Wj ∧ DvM w1 w' b k kj W Wj ∧ abs Wj = abs W ++ pcs size F at_ B j)
    (fun c w' => c = (wgo f M 0 s).2.1 ∧ ∃ kj Wj, Dev w0 w' n size b (wgo f M 0 s).2.2 kj D Wj ∧ DvM w1 w' b k kj W Wj ∧ abs Wj = abs W ++ pcs size F at_ B (wgo f M 0 s).1)
    (.inr rfl) (by omega) s1 (by omega) (by omega) ?_ ?_ ?_ (dsize_any h1) ?_
  · have hbx : ∀ w', Kept w1 w' (fun i => k.own i ∨ i = b) → w'.heap[br]? = some (.cells #[.pointer (some ⟨r, 0, none⟩)] 77 (0, 0)) ∧ w'.heap[bb]? = some (.cells #[.slice ao xs.length cap] 36 (0, 0)) := by
      intro w' hk
      have q1 := h1.far hbr (by decide) (by decide) (by decide) (by decide)
      have q2 := h1.far hbb (by decide) (by decide) (by decide) (by decide)
      exact ⟨hk.at hbr (fun e => e.elim q1.1 q1.2), hk.at hbb (fun e => e.elim q2.1 q2.2)⟩
    refine hd.mono ?_
    rintro e w' ⟨c, rfl, ⟨rfl, sj, kj, Wj, e1, e2, e3, e4, e5⟩ | ⟨hc0, e1, kj, Wj, e3, e4, e5⟩⟩
    · rw [← hM, Nat.sub_self] at e1
      rw [← hM] at e5
      simp only [wgo, Nat.add_zero] at e1
      refine ⟨0, rfl, ⟨?_, kj, Wj, ?_, DvM.pre hg1 e4, ?_⟩, hbx _ e4.kept⟩
      · rw [← hf, ← hM, e1]
      · rw [← hf, ← hM, e1]; exact e3
      · rw [← hf, ← hM, ← hBd, e1]; exact e5
    · refine ⟨c, rfl, ⟨?_, kj, Wj, ?_, DvM.pre hg1 e4, ?_⟩, hbx _ e4.kept⟩
      · rw [← hf, ← hM]; exact e1
      · rw [← hf, ← hM]; exact e3
      · rw [← hf, ← hM, ← hBd]; exact e5
  · exact ⟨s, k, W, by rw [Nat.sub_zero, Nat.zero_add], by omega, h1, DvM.refl _ _ _ _, by simp [pcs]⟩
  · rintro j w' q ⟨sj, kj, Wj, e1, e2, e3, e4, e5⟩
    exact ⟨sj, kj, Wj, e1, e2, e3.drew q, e4.new (grown_drewN _ _ _), e5⟩
  · rintro j w' ⟨sj, kj, Wj, e1, e2, e3, e4, e5⟩
    have q1 := h1.far hr1.head (by decide) (by decide) (by decide) (by decide)
    have hr2 : RgAt w' r b F C := hr1.kept e4.kept (fun e => e.elim q1.1 q1.2)
    exact ⟨hr2.c0, hr2.c1⟩
  · rintro j w' hj ⟨sj, kj, Wj, e1, e2, e3, e4, e5⟩
    have hj2 : j < M := by omega
    obtain ⟨S, d, fr, te, N⟩ := pc_nums (by omega) (by omega) hj
    have nd := N.d1
    have nf := N.f1
    have nt := N.t1
    have nx := N.nx
    obtain ⟨a, rfl⟩ : ∃ a, ao = some a := by
      obtain ⟨a, e, _⟩ := hat 0 _ (List.getElem?_eq_getElem (show 0 < xs.length by omega))
      exact ⟨a, e⟩
    obtain ⟨oa, ob⟩ := hoff a rfl (by omega)
    have hlt : a.block < w1.heap.size := by
      obtain ⟨a', e, hc⟩ := hat1 0 _ (List.getElem?_eq_getElem (show 0 < xs.length by omega))
      cases e
      have := cell_lt hc
      rwa [addr_add_block] at this
    have hR : WrS w0 w' n size b sj kj D Wj r F C br bb a cap xs := (WrS.mk h1 hr1 hbr hbb hat1 hcap oa ob).goes e3 e4 hlt
    have hS : F + S < n := by
      obtain ⟨h1, h2, h3, h4⟩ := pc_facts (by omega) hj
      apply Nat.lt_of_mul_lt_mul_right (a := size)
      rw [Nat.add_mul, ← N.eS]
      omega
    have hWj : Wj.length = W.length + j := by
      have := congrArg List.length e5
      rw [abs_length, List.length_append, abs_length, pcs_length] at this
      exact this
    have hnow : now size D (abs Wj) = splice (now size D (abs W)) (F * size + at_) (xs.take d) := by
      rw [e5, hBd, now_pcs (by omega) hA (by omega) j (by omega), N.ed]
    have hfound : found size D Wj (F + S) = secOf size (now size D (abs Wj)) (F + S) := (now_found e3.disk.disk.len e3.disk.disk.fitsW _ hS).symm
    have hsec : splice (found size D Wj (F + S)) fr ((xs.drop d).take (te - fr)) = secOf size B (F + S) := by
      have hps := pc_sec (n := n) (F := F) (A := now size D (abs Wj)) (b := xs) (by omega) (by rw [hnow, length_splice _ _ _ (by simp; omega), hA]) hj (by omega)
      rw [N.ed, N.ef, N.et, N.eS] at hps
      rw [hfound, hps, hnow, splice_over _ _ _ _ (by omega), hBd]
    have hfl : (found size D Wj (F + S)).length = size := found_length e3.disk.disk.len e3.disk.disk.fitsW _ hS
    have hnext : abs Wj ++ [(F + S, secOf size B (F + S))] = abs W ++ pcs size F at_ B (j + 1) := by
      rw [pcs_succ, e5, List.append_assoc, N.eS]
    unfold partV
    have hfj : f j = decide (te - fr = size) := by rw [hf, full, N.et, N.ef]
    rw [N.ed, N.ef, N.et, N.eS]
    obtain ⟨q, hq⟩ : ∃ q, M - j = q + 1 := ⟨M - j - 1, by omega⟩
    have hq2 : M - (j + 1) = q := by omega
    rw [hq, wgo_step, hfj] at e1
    rw [hq2]
    have ew : w1.heap.size ≤ w'.heap.size := e4.kept.size
    have hbl : b < w1.heap.size := h1.dev.lt
    by_cases hfull : te - fr = size
    · have hfr : fr = 0 := by omega
      have hte : te = size := by omega
      subst hfr hte
      have htold : (xs.drop d).take te = secOf te B (F + S) := by
        rw [← hsec, Nat.sub_zero, splice_full _ _ (by rw [hfl]; simp; omega)]
      rw [Nat.sub_zero, decide_eq_true rfl, if_pos rfl] at e1
      have hw := wr1_full hR (by omega) (by omega) (F + S) d hS (by omega) (by omega)
      rw [htold, hnext] at hw
      refine hw.mono ?_
      rintro e w2 ⟨rfl, k5, W5, q1, q2, q3, q4⟩
      cases hgo : sj.goes with
      | true =>
        rw [hgo, if_pos rfl] at e1
        rw [hgo, ifP_t] at q3
        refine ⟨_, rfl, .inl ⟨Dv.code_ok hgo, sj.next, k5, W5, ?_, ?_, q1, e4.trans q2 hbl, q3⟩⟩
        · rw [e1]; simp only [Prod.mk.injEq, and_true]; omega
        · have := sj.next_le; omega
      | false =>
        rw [hgo] at e1
        simp only [Bool.false_eq_true, if_false, Nat.add_zero] at e1
        rw [hgo, ifP_f] at q3
        refine ⟨_, rfl, .inr ⟨by rw [Dv.code_no hgo]; omega, by rw [e1, Dv.code_no hgo], k5, W5, by rw [e1]; exact q1, e4.trans q2 hbl, by rw [e1, q3]; exact e5⟩⟩
    · rw [decide_eq_false hfull] at e1
      simp only [Bool.false_eq_true, if_false] at e1
      cases hgo : sj.goes with
      | false =>
        rw [hgo] at e1
        simp only [Bool.false_eq_true, if_false, Nat.add_zero] at e1
        refine (wr1_part hR (by omega) (by omega) (F + S) fr te d (te - fr) hS (by omega) nt (by omega) (by omega) (by omega) (by omega) 60 sj.next (abs Wj) (.inl ⟨hgo, rfl, rfl, rfl⟩)).mono ?_
        rintro e w2 ⟨rfl, k5, W5, q1, q2, q3, q4⟩
        exact ⟨_, rfl, .inr ⟨by omega, by rw [e1], k5, W5, by rw [e1]; exact q1, e4.trans q2 hbl, by rw [e1, q3]; exact e5⟩⟩
      | true =>
        rw [hgo, if_pos rfl] at e1
        refine (wr1_part hR (by omega) (by omega) (F + S) fr te d (te - fr) hS (by omega) nt (by omega) (by omega) (by omega) (by omega) _ _ _ (.inr ⟨hgo, rfl, rfl, rfl⟩)).mono ?_
        rintro e w2 ⟨rfl, k5, W5, q1, q2, q3, q4⟩
        rw [hsec, hnext] at q3
        cases hg2 : sj.next.goes with
        | true =>
          rw [hg2, if_pos rfl] at e1
          rw [hg2, ifP_t] at q3
          refine ⟨_, rfl, .inl ⟨Dv.code_ok hg2, sj.next.next, k5, W5, ?_, ?_, q1, e4.trans q2 hbl, q3⟩⟩
          · rw [e1]; simp only [Prod.mk.injEq, and_true]; omega
          · have := sj.next_le; have := sj.next.next_le; omega
        | false =>
          rw [hg2] at e1
          simp only [Bool.false_eq_true, if_false, Nat.add_zero] at e1
          rw [hg2, ifP_f] at q3
          exact ⟨_, rfl, .inr ⟨by rw [Dv.code_no hg2]; omega, by rw [e1, Dv.code_no hg2], k5, W5, by rw [e1]; exact q1, e4.trans q2 hbl, by rw [e1, q3]; exact e5⟩⟩
end
end Go.Proofs.YtonokaelbpfjnaaGreatDoor
/- A device that is not armed; how many operations a read, a write makes. -/
namespace Go.Proofs.YtonokaelbpfjnaaGreatDoor
open Go.RowKit Ap

/-- Up, and not armed. -/
def frD (c : Nat) : Dv := ⟨false, -1, c⟩
theorem frD_goes (c : Nat) : (frD c).goes = true := rfl
theorem frD_next (c : Nat) : (frD c).next = frD (c + 1) := rfl
theorem rgo_free (m c : Nat) : rgo m (frD c) = (0, frD (c + m)) := by
  induction m generalizing c with
  | zero => rfl
  | succ m ih => rw [rgo, if_pos (frD_goes c), frD_next, ih, show c + 1 + m = c + (m + 1) by omega]
/-- So many operations do m pieces make. -/
def cst (f : Nat → Bool) : Nat → Nat → Nat
  | 0, _ => 0
  | m + 1, k => (if f k then 1 else 2) + cst f m (k + 1)
theorem wgo_free (f : Nat → Bool) (m k c : Nat) : wgo f m k (frD c) = (m, 0, frD (c + cst f m k)) := by
  induction m generalizing c k with
  | zero => rfl
  | succ m ih =>
    rw [wgo_step, if_pos (frD_goes c), frD_next, if_pos (frD_goes _), frD_next, ih, ih, cst]
    cases f k with
    | true => simp only [if_true]; rw [show c + 1 + cst f m (k + 1) = c + (1 + cst f m (k + 1)) by omega]
    | false => simp only [Bool.false_eq_true, if_false]; rw [show c + 1 + 1 + cst f m (k + 1) = c + (2 + cst f m (k + 1)) by omega]
theorem cst_tail (f : Nat → Bool) (m k : Nat) (h : ∀ j, k ≤ j → j + 1 < k + m → f j = true) : cst f m k ≤ m + 1 := by
  induction m generalizing k with
  | zero => simp [cst]
  | succ m ih =>
    rw [cst]
    cases m with
    | zero => simp only [cst]; split <;> omega
    | succ m =>
      have := ih (k + 1) (fun j h1 h2 => h j (by omega) (by omega))
      rw [if_pos (h k (by omega) (by omega))]
      omega
theorem cst_all (f : Nat → Bool) (m : Nat) (h : ∀ j, 1 ≤ j → j + 1 < m → f j = true) : cst f m 0 ≤ m + 2 := by
  cases m with
  | zero => simp [cst]
  | succ m =>
    rw [cst, Nat.zero_add]
    have := cst_tail f m 1 (fun j h1 h2 => h j h1 (by omega))
    split <;> omega
theorem cst_le (f : Nat → Bool) (m k : Nat) : cst f m k ≤ 2 * m := by
  induction m generalizing k with
  | zero => simp [cst]
  | succ m ih => rw [cst]; have := ih (k + 1); split <;> omega
theorem full_mid {size at_ n : Nat} (hs : 0 < size) (j : Nat) (h1 : 1 ≤ j) (h2 : j + 1 < pcn size at_ n) : full size at_ n j = true := by
  obtain ⟨j, rfl⟩ : ∃ i, j = i + 1 := ⟨j - 1, by omega⟩
  have h3 := (pcn_iff hs (j + 1 + 1)).1 h2
  have hd := Nat.div_add_mod at_ size
  have hm := Nat.mod_lt at_ hs
  rw [Nat.mul_comm] at hd
  have e : (at_ / size + (j + 1)) * size = at_ / size * size + size + j * size := by rw [Nat.add_mul, Nat.add_mul]; omega
  have e2 : (at_ / size + (j + 1 + 1)) * size = (at_ / size + (j + 1)) * size + size := by rw [← Nat.add_assoc, Nat.add_mul (at_ / size + (j + 1)), Nat.one_mul]
  unfold full
  simp only [decide_eq_true_eq]
  rw [e2] at h3
  generalize (at_ / size + (j + 1)) * size = q at *
  omega
theorem pcn_le {size at_ n : Nat} (hs : 0 < size) : pcn size at_ n ≤ n / size + 2 := by
  unfold pcn
  split
  · exact Nat.zero_le _
  · have h1 := Nat.div_add_mod at_ size
    have h2 := Nat.div_add_mod n size
    have h3 := Nat.mod_lt at_ hs
    have h4 := Nat.mod_lt n hs
    have : (at_ + n - 1) / size < at_ / size + n / size + 2 := by
      rw [Nat.div_lt_iff_lt_mul hs, Nat.add_mul, Nat.add_mul, Nat.mul_comm (at_ / size), Nat.mul_comm (n / size)]
      omega
    generalize (at_ + n - 1) / size = x at *
    generalize at_ / size = y at *
    generalize n / size = z at *
    omega
theorem cst_few {size at_ n : Nat} (hs : 0 < size) : cst (full size at_ n) (pcn size at_ n) 0 ≤ n / size + 4 := by
  have := cst_all (full size at_ n) (pcn size at_ n) (fun j h1 h2 => full_mid hs j h1 h2)
  have := pcn_le (at_ := at_) (n := n) hs
  generalize n / size = z at *
  omega
/-- A write on a device that isn't armed. -/
theorem WriteP.free {w0 w w' : World} {n size b F at_ cnt : Nat} {k : Dk} {D : List Nat} {W : List Wt} {xs : List Nat} {c : Int} (h : WriteP w0 w w' n size b (frD cnt) k D W F at_ xs c) (hs : 0 < size) (hA : (now size D (abs W)).length = n * size) (hfit : F * size + at_ + xs.length ≤ n * size) :
    c = 0 ∧ ∃ k' W', Dev w0 w' n size b (frD (cnt + cst (full size at_ xs.length) (pcn size at_ xs.length) 0)) k' D W' ∧ DvM w w' b k k' W W' ∧ now size D (abs W') = splice (now size D (abs W)) (F * size + at_) xs ∧ W'.length = W.length + pcn size at_ xs.length := by
  obtain ⟨h1, k', W', h2, h3, h4⟩ := h
  rw [wgo_free] at h1 h2 h4
  refine ⟨h1, k', W', h2, h3, ?_, ?_⟩
  · rw [h4]; exact now_all hs hA hfit
  · have := congrArg List.length h4
    rw [abs_length, List.length_append, abs_length, pcs_length] at this
    exact this
end Go.Proofs.YtonokaelbpfjnaaGreatDoor
/- Small calls: CopyBytes; a read that may not be. -/
namespace Go.Proofs.YtonokaelbpfjnaaGreatDoor
open Go.RowKit Ap
attribute [local go_sem ↓] Go.wp_at_zero Go.wp_at_succ

set_option maxHeartbeats 400000 in
theorem copyBytes_any (ao : Option Addr) (n cap : Nat) (xs : List Nat) (w : World) (hn : xs.length = n) (hat : At w ao xs) (hnil : ao = none → n = 0 ∧ cap = 0) (hb : n ≤ 140737488355328) :
    Calls Tryz.prog 28 #[.slice ao n cap] w fun e w' => ∃ v, e = .returned v ∧ w'.ownsRow w.heap.size 5 1 v n (bv xs) ∧ w.grownBy w' none := by
  have Hn := hide hn
  clear hn
  go_enter Tryz.func28, Tryz.ntmps28
  go_wp2_with (at_builtin; refine wpList_append_at rfl (.tmp 4) (.tmp 5) rfl w.heap.size (.slice none 0 0) 0 [] rfl (World.ownsRow_nil _ _ _ _) ao n cap xs rfl Hn.out hat hnil (by omega) (Nat.le_refl _) ?_)
  intro v' w' hown hg
  obtain ⟨ao', cap', rfl, hr⟩ := own_form hown
  clear hr
  go_wp2
  go_ret
  exact ⟨_, rfl, by simpa using hown, grown_then (grown_refl w none) hg (fun k e => by cases e)⟩
theorem results_tmp4 {fn : Func} {t u v x : Tmp} (h : fn.results = #[.tmp t, .tmp u, .tmp v, .tmp x]) (tmps : Array Value) (P : Program) (w : World) :
    (results fn tmps).run P w = .ok (.tuple #[tmps.getD t undef, tmps.getD u undef, tmps.getD v undef, tmps.getD x undef]) w := by
  simp [results, h]
set_option maxRecDepth 20000 in
set_option maxHeartbeats 1000000 in
/-- A read that may not be. -/
theorem gRead_bad {w0 w : World} {n size b r F C : Nat} {s : Dv} {k : Dk} {D : List Nat} {W : List Wt} (h : Dev w0 w n size b s k D W) (hr : RgAt w r b F C) (hC : C ≤ 65536) (at_ m : Int) (hat : at_ ≤ 9223372036854775807) (hbad : mcode (C * size) at_ m = 2) :
    Calls Tryz.prog 115 #[.pointer (some ⟨r, 0, none⟩), .int .i64 at_, .int .i64 m] w fun e w' => e = .returned (.tuple #[.slice none 0 0, .int .i64 2]) ∧ w.grownBy w' none := by
  have HM : Hid (∀ w1 : World, w.grownBy w1 none → Calls Tryz.prog 138 #[.pointer (some ⟨r, 0, none⟩), .int .i64 at_, .int .i64 m] w1 fun e w' => e = .returned (.int .i64 2) ∧ w1.grownBy w' none) := by
    intro w1 hg
    have := gmay_at (h.then hg) (hr.grown hg) hC at_ m hat
    rw [hbad] at this
    exact this.mono (by rintro e w' ⟨rfl, q, rfl⟩; exact ⟨rfl, grown_drewN _ _ _⟩)
  have G1 := hide (World.grownBy_alloc w (.cells #[.pointer (some ⟨r, 0, none⟩)] 77) none)
  have N1 : Hid ((w.alloc (.cells #[.pointer (some ⟨r, 0, none⟩)] 77)).heap[w.heap.size]? = some (.cells #[.pointer (some ⟨r, 0, none⟩)] 77 (0, 0))) := heap_alloc_new w _
  have c0 : (w.alloc (.cells #[.pointer (some ⟨r, 0, none⟩)] 77)).cell? ⟨w.heap.size, 0, none⟩ = some (.pointer (some ⟨r, 0, none⟩)) := cell_row (l := [_]) N1.out 0
  clear h hr hbad
  go_enter Tryz.func115, Tryz.ntmps115
  go_wp2_with fail
  refine (HM.out _ G1.out).mono ?_
  rintro e w2 ⟨rfl, g2⟩
  have G2 := hide (grown_trans G1.out g2)
  clear g2
  go_wp2
  go_ret2
  exact ⟨rfl, G2.out⟩
end Go.Proofs.YtonokaelbpfjnaaGreatDoor
/- No region, no device. -/
namespace Go.Proofs.YtonokaelbpfjnaaGreatDoor
open Go.RowKit Ap
attribute [local go_sem ↓] Go.wp_at_zero Go.wp_at_succ

theorem NoRegion.grown {w w' : World} {p : Option Addr} (h : NoRegion w p) (hg : w.grownBy w' none) : NoRegion w' p := h.imp id (fun ⟨a, e, hc⟩ => ⟨a, e, hg.cell hc (by simp)⟩)
section
variable {w : World} {p : Option Addr}
set_option maxHeartbeats 400000 in
theorem gmay_none (h : NoRegion w p) (at_ m : Int) : Calls Tryz.prog 138 #[.pointer p, .int .i64 at_, .int .i64 m] w fun e w' => e = .returned (.int .i64 1) ∧ w' = w := by
  have H := hide (gnone_no p w h)
  clear h
  go_enter Tryz.func138, Tryz.ntmps138
  go_wp2_with fail
  refine H.out.mono ?_
  rintro e w' ⟨rfl, rfl⟩
  go_wp2
  go_ret
  exact ⟨rfl, rfl⟩
set_option maxHeartbeats 400000 in
theorem gRead_none (h : NoRegion w p) (at_ m : Int) : Calls Tryz.prog 115 #[.pointer p, .int .i64 at_, .int .i64 m] w fun e w' => e = .returned (.tuple #[.slice none 0 0, .int .i64 1]) ∧ w.grownBy w' none := by
  have G1 := hide (World.grownBy_alloc w (.cells #[.pointer p] 77) none)
  have N1 : Hid ((w.alloc (.cells #[.pointer p] 77)).heap[w.heap.size]? = some (.cells #[.pointer p] 77 (0, 0))) := heap_alloc_new w _
  have c0 : (w.alloc (.cells #[.pointer p] 77)).cell? ⟨w.heap.size, 0, none⟩ = some (.pointer p) := cell_row (l := [_]) N1.out 0
  have H := hide (gmay_none (h.grown G1.out) at_ m)
  clear h
  go_enter Tryz.func115, Tryz.ntmps115
  go_wp2_with fail
  refine H.out.mono ?_
  rintro e w' ⟨rfl, rfl⟩
  go_wp2
  go_ret2
  exact ⟨rfl, G1.out⟩
set_option maxHeartbeats 400000 in
theorem gWrite_none (h : NoRegion w p) (at_ : Int) : Calls Tryz.prog 143 #[.pointer p, .int .i64 at_, .slice none 0 0] w fun e w' => e = .returned (.int .i64 1) ∧ w.grownBy w' none := by
  have g1 := World.grownBy_alloc w (.cells #[.pointer p] 77) none
  have g2 := World.grownBy_alloc (w.alloc (.cells #[.pointer p] 77)) (.cells #[.slice none 0 0] 36) none
  have z1 : (w.alloc (.cells #[.pointer p] 77)).heap.size = w.heap.size + 1 := Array.size_push ..
  have n1 : (w.alloc (.cells #[.pointer p] 77)).heap[w.heap.size]? = some (.cells #[.pointer p] 77 (0, 0)) := heap_alloc_new w _
  have n2 := heap_alloc_new (w.alloc (.cells #[.pointer p] 77)) (.cells #[.slice none 0 0] 36)
  rw [z1] at n2
  have n1' := (g2.block _ (row_lt n1) (by simp)).trans n1
  have G1 := hide (grown_trans g1 g2)
  have c0 : ((w.alloc (.cells #[.pointer p] 77)).alloc (.cells #[.slice none 0 0] 36)).cell? ⟨w.heap.size, 0, none⟩ = some (.pointer p) := cell_row (l := [_]) n1' 0
  have c1 : ((w.alloc (.cells #[.pointer p] 77)).alloc (.cells #[.slice none 0 0] 36)).cell? ⟨w.heap.size + 1, 0, none⟩ = some (.slice none 0 0) := cell_row (l := [_]) n2 0
  have H := hide (gmay_none (h.grown G1.out) at_ 0)
  clear h g1 g2 z1 n1 n2 n1'
  go_enter Tryz.func143, Tryz.ntmps143
  go_wp2_with fail
  refine H.out.mono ?_
  rintro e w' ⟨rfl, rfl⟩
  go_wp2
  go_ret
  exact ⟨rfl, G1.out⟩
set_option maxHeartbeats 400000 in
theorem gSync_none (h : NoRegion w p) : Calls Tryz.prog 144 #[.pointer p] w fun e w' => e = .returned (.int .i64 1) ∧ w' = w := by
  have H := hide (gnone_no p w h)
  clear h
  go_enter Tryz.func144, Tryz.ntmps144
  go_wp2_with fail
  refine H.out.mono ?_
  rintro e w' ⟨rfl, rfl⟩
  go_wp2
  go_ret
  exact ⟨rfl, rfl⟩
set_option maxHeartbeats 400000 in
theorem gBytes_none (h : NoRegion w p) : Calls Tryz.prog 93 #[.pointer p] w fun e w' => e = .returned (.int .i64 0) ∧ w' = w := by
  have H := hide (gnone_no p w h)
  clear h
  go_enter Tryz.func93, Tryz.ntmps93
  go_wp2_with fail
  refine H.out.mono ?_
  rintro e w' ⟨rfl, rfl⟩
  go_wp2
  go_ret
  exact ⟨rfl, rfl⟩
set_option maxHeartbeats 400000 in
theorem gSize_none (h : NoRegion w p) : Calls Tryz.prog 94 #[.pointer p] w fun e w' => e = .returned (.int .i64 0) ∧ w' = w := by
  have H := hide (gnone_no p w h)
  clear h
  go_enter Tryz.func94, Tryz.ntmps94
  go_wp2_with fail
  refine H.out.mono ?_
  rintro e w' ⟨rfl, rfl⟩
  go_wp2
  go_ret
  exact ⟨rfl, rfl⟩
end
/-- No device: nil, or none that was made. -/
def NoDev (w : World) (p : Option Addr) : Prop := p = none ∨ ∃ b, p = some ⟨b, 0, none⟩ ∧ w.cell? ⟨b, 1, none⟩ = some (.bool false)
theorem NoDev.is {w : World} {p : Option Addr} (h : NoDev w p) : Calls Tryz.prog 70 #[.pointer p] w fun e w' => e = .returned (.bool true) ∧ w' = w := by
  rcases h with rfl | ⟨b, rfl, hc⟩
  · exact dnone_nil w
  · exact dnone_at b false w hc
set_option maxHeartbeats 400000 in
theorem dsectors_none {w : World} {p : Option Addr} (h : NoDev w p) : Calls Tryz.prog 91 #[.pointer p] w fun e w' => e = .returned (.int .i64 0) ∧ w' = w := by
  have H := hide h.is
  clear h
  go_enter Tryz.func91, Tryz.ntmps91
  go_wp2_with fail
  refine H.out.mono ?_
  rintro e w' ⟨rfl, rfl⟩
  go_wp2
  go_ret
  exact ⟨rfl, rfl⟩
set_option maxHeartbeats 1000000 in
theorem gnew_none {w : World} {p : Option Addr} (h : NoDev w p) (F C : Int) : Calls Tryz.prog 38 #[.pointer p, .agg #[.int .i64 F, .int .i64 C]] w fun e w' => e = .returned (.tuple #[.pointer none, .int .i64 1]) ∧ w.grownBy w' none := by
  have G1 := hide (World.grownBy_alloc w (.cells #[.int .i64 F, .int .i64 C] 65) none)
  have H : Hid (Calls Tryz.prog 91 #[.pointer p] (w.alloc (.cells #[.int .i64 F, .int .i64 C] 65)) fun e w' => e = .returned (.int .i64 0) ∧ w' = w.alloc (.cells #[.int .i64 F, .int .i64 C] 65)) := dsectors_none (h.imp id (fun ⟨b, e, hc⟩ => ⟨b, e, G1.out.cell hc (by simp)⟩))
  clear h
  go_enter Tryz.func38, Tryz.ntmps38
  go_wp2_with fail
  refine H.out.mono ?_
  rintro e w' ⟨rfl, rfl⟩
  go_wp2
  go_ret2
  exact ⟨rfl, G1.out⟩
end Go.Proofs.YtonokaelbpfjnaaGreatDoor
