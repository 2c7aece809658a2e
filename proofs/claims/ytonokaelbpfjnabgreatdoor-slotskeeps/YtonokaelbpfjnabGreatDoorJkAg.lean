/- Texts joined: Rg8, Rg9, Hq, Nn, FBase. -/
import Derived.Test.YtonokaelbpfjnabGreatDoorJkAf
import Derived.WalkKit
import Derived.WalkSpells
import Derived.WalkLawsBesides
import Derived.Laws.CopyOwn
import Derived.Deep.MidRow
/- A region's write. -/
namespace Go.Proofs.YtonokaelbpfjnabGreatDoor
open Go.RowKit Ap
attribute [local go_sem ↓] Go.wp_at_zero Go.wp_at_succ

section
variable {w0 w w' : World} {n size b r F C : Nat} {s s' : Dv} {k : Dk} {D : List Nat} {W : List Wt}
set_option maxRecDepth 20000 in
set_option maxHeartbeats 4000000 in
theorem gWrite_any (h : Dev w0 w n size b s k D W) (hr : RgAt w r b F C) (hC : C ≤ 65536) (at_ m cap : Nat) (ao : Option Addr) (hfit : at_ + m ≤ C * size) (hm : m ≤ 268435456) (Post : Int → World → Prop)
    (heach : ∀ w1 br bb, w.grownBy w1 none → w1.heap[br]? = some (.cells #[.pointer (some ⟨r, 0, none⟩)] 65 (0, 0)) → w1.heap[bb]? = some (.cells #[.slice ao m cap] 39 (0, 0)) →
      Calls Tryz.prog 86 #[.pointer (some ⟨r, 0, none⟩), .int .i64 (at_ : Int), .int .i64 (m : Int), .func (.func 116) #[] #[.pointer (some ⟨bb, 0, none⟩), .pointer (some ⟨br, 0, none⟩)]] w1 fun e w' => ∃ c : Int, e = .returned (.int .i64 c) ∧ (Post c w' ∧ w'.heap[br]? = some (.cells #[.pointer (some ⟨r, 0, none⟩)] 65 (0, 0)) ∧ w'.heap[bb]? = some (.cells #[.slice ao m cap] 39 (0, 0)))) :
    Calls Tryz.prog 83 #[.pointer (some ⟨r, 0, none⟩), .int .i64 (at_ : Int), .slice ao m cap] w fun e w' => ∃ c, e = .returned (.int .i64 c) ∧ Post c w' := by
  have hB : C * size ≤ 65536 * 4096 := Nat.mul_le_mul hC h.disk.disk.shape.s1
  have e0 : mcode (C * size) at_ m = 0 := by unfold mcode; rw [if_pos (by omega)]
  have HM : Hid (∀ w1 : World, w.grownBy w1 none → Calls Tryz.prog 85 #[.pointer (some ⟨r, 0, none⟩), .int .i64 (at_ : Int), .int .i64 (m : Int)] w1 fun e w' => e = .returned (.int .i64 0) ∧ w1.grownBy w' none) := by
    intro w1 hg
    have := gmay_at (h.then hg) (hr.grown hg) hC at_ m (by omega)
    rw [e0] at this
    exact this.mono (by rintro e w' ⟨rfl, q, rfl⟩; exact ⟨rfl, grown_drewN _ _ _⟩)
  have HE := hide heach
  have g1 := World.grownBy_alloc w (.cells #[.pointer (some ⟨r, 0, none⟩)] 65) none
  have g2 := World.grownBy_alloc (w.alloc (.cells #[.pointer (some ⟨r, 0, none⟩)] 65)) (.cells #[.slice ao m cap] 39) none
  have z1 : (w.alloc (.cells #[.pointer (some ⟨r, 0, none⟩)] 65)).heap.size = w.heap.size + 1 := Array.size_push ..
  have n1 : (w.alloc (.cells #[.pointer (some ⟨r, 0, none⟩)] 65)).heap[w.heap.size]? = some (.cells #[.pointer (some ⟨r, 0, none⟩)] 65 (0, 0)) := heap_alloc_new w _
  have n2 := heap_alloc_new (w.alloc (.cells #[.pointer (some ⟨r, 0, none⟩)] 65)) (.cells #[.slice ao m cap] 39)
  rw [z1] at n2
  have n1' := (g2.block _ (row_lt n1) (by simp)).trans n1
  have G1 := hide (grown_trans g1 g2)
  have N1 := hide (And.intro n1' n2)
  have c0 : ((w.alloc (.cells #[.pointer (some ⟨r, 0, none⟩)] 65)).alloc (.cells #[.slice ao m cap] 39)).cell? ⟨w.heap.size, 0, none⟩ = some (.pointer (some ⟨r, 0, none⟩)) := cell_row (l := [_]) n1' 0
  have c1 : ((w.alloc (.cells #[.pointer (some ⟨r, 0, none⟩)] 65)).alloc (.cells #[.slice ao m cap] 39)).cell? ⟨w.heap.size + 1, 0, none⟩ = some (.slice ao m cap) := cell_row (l := [_]) n2 0
  clear h hr heach e0 g1 g2 z1 n1 n2 n1'
  go_enter Tryz.func83, Tryz.ntmps83
  go_wp2_with fail
  generalize (w.alloc (.cells #[.pointer (some ⟨r, 0, none⟩)] 65)).alloc (.cells #[.slice ao m cap] 39) = w1 at *
  generalize w.heap.size + 1 = bb at *
  generalize w.heap.size = br at *
  refine (HM.out _ G1.out).mono ?_
  rintro e w2 ⟨rfl, g2⟩
  have N2 : Hid (w2.heap[br]? = some (.cells #[.pointer (some ⟨r, 0, none⟩)] 65 (0, 0)) ∧ w2.heap[bb]? = some (.cells #[.slice ao m cap] 39 (0, 0)) ∧ w.grownBy w2 none) := ⟨(g2.block _ (row_lt N1.out.1) (by simp)).trans N1.out.1, (g2.block _ (row_lt N1.out.2) (by simp)).trans N1.out.2, grown_trans G1.out g2⟩
  have b0 : w2.cell? ⟨br, 0, none⟩ = some (.pointer (some ⟨r, 0, none⟩)) := cell_row (l := [_]) N2.out.1 0
  have b1 : w2.cell? ⟨bb, 0, none⟩ = some (.slice ao m cap) := cell_row (l := [_]) N2.out.2.1 0
  clear g2 c0 c1 N1 G1 HM
  have hS0 := And.intro b0 b1
  have HX : Hid (∀ w3 : World, w2.grownBy w3 none → Calls Tryz.prog 86 #[.pointer (some ⟨r, 0, none⟩), .int .i64 (at_ : Int), .int .i64 (m : Int), .func (.func 116) #[] #[.pointer (some ⟨bb, 0, none⟩), .pointer (some ⟨br, 0, none⟩)]] w3 fun e w' => ∃ c : Int, e = .returned (.int .i64 c) ∧ (Post c w' ∧ w'.heap[br]? = some (.cells #[.pointer (some ⟨r, 0, none⟩)] 65 (0, 0)) ∧ w'.heap[bb]? = some (.cells #[.slice ao m cap] 39 (0, 0)))) :=
    fun w3 hg3 => HE.out w3 br bb (grown_trans N2.out.2.2 hg3) ((hg3.block _ (row_lt N2.out.1) (by simp)).trans N2.out.1) ((hg3.block _ (row_lt N2.out.2.1) (by simp)).trans N2.out.2.1)
  go_wp2_with fail
  go_region_held3 (fun w' => w'.cell? ⟨br, 0, none⟩ = some (.pointer (some ⟨r, 0, none⟩)) ∧ w'.cell? ⟨bb, 0, none⟩ = some (.slice ao m cap)) (first | assumption | go_keep) (first
    | (go_at_call 86; refine (HX.out _ (grown_drew _ _)).mono ?_; rintro e w3 ⟨c, rfl, hq⟩; have H3 := hide hq; clear hq; have hS3 : w3.cell? ⟨br, 0, none⟩ = some (.pointer (some ⟨r, 0, none⟩)) ∧ w3.cell? ⟨bb, 0, none⟩ = some (.slice ao m cap) := ⟨cell_row (l := [_]) H3.out.2.1 0, cell_row (l := [_]) H3.out.2.2 0⟩))
  rename_i hHeld
  clear hHeld hS3 hS0 b0 b1 HX
  go_wp2
  go_ret
  exact ⟨_, rfl, H3.out.1⟩
theorem splice_over (A b : List Nat) (o d : Nat) (h : o + b.length ≤ A.length) : splice (splice A o (b.take d)) o b = splice A o b := by
  have hl : (b.take d).length ≤ b.length := by simp; omega
  apply List.ext_getElem?
  intro i
  rw [splice_get _ _ _ _ (by rw [length_splice _ _ _ (by omega)]; omega), splice_get _ _ _ _ (by omega), splice_get _ _ _ _ (by omega)]
  by_cases hx : o ≤ i ∧ i < o + b.length
  · rw [if_pos hx, if_pos hx]
  · rw [if_neg hx, if_neg hx, if_neg (by omega)]
/-- What a write leaves. -/
structure WriteP (w0 w w' : World) (n size b : Nat) (s : Dv) (k : Dk) (D : List Nat) (W : List Wt) (F at_ : Nat) (xs : List Nat) (c : Int) : Prop where
  code : c = (wgo (full size at_ xs.length) (pcn size at_ xs.length) 0 s).2.1
  left : ∃ k' W', Dev w0 w' n size b (wgo (full size at_ xs.length) (pcn size at_ xs.length) 0 s).2.2 k' D W' ∧ DvM w w' b k k' W W' ∧ abs W' = abs W ++ pcs size F at_ (splice (now size D (abs W)) (F * size + at_) xs) (wgo (full size at_ xs.length) (pcn size at_ xs.length) 0 s).1
theorem pair_eta {α β : Type} (p : α × β) : (p.1, p.2) = p := rfl
/-- What one piece does to the device. -/
theorem wgo_step (f : Nat → Bool) (M j : Nat) (sj : Dv) : wgo f (M + 1) j sj = if sj.goes then (if f j then ((wgo f M (j + 1) sj.next).1 + 1, (wgo f M (j + 1) sj.next).2) else if sj.next.goes then ((wgo f M (j + 1) sj.next.next).1 + 1, (wgo f M (j + 1) sj.next.next).2) else (0, 60, sj.next.next)) else (0, 60, sj.next) := rfl
theorem Dv.next_le (s : Dv) : s.next.cnt ≤ s.cnt + 1 := s.next_cnt
theorem Dv.code_ok {s : Dv} (h : s.goes = true) : s.code 0 = 0 := by simp [Dv.code, h]
theorem Dv.code_no {s : Dv} (h : s.goes = false) : s.code 0 = 60 := by simp [Dv.code, h]
theorem ifP_t (x y : List Pr) : ifP true x y = x := rfl
theorem ifP_f (x y : List Pr) : ifP false x y = y := rfl
set_option maxHeartbeats 2000000 in
theorem gWrite_at (h : Dev w0 w n size b s k D W) (hr : RgAt w r b F C) (hFC : F + C ≤ n) (at_ cap : Nat) (ao : Option Addr) (xs : List Nat) (hat : At w ao xs) (hcap : xs.length ≤ cap) (hfit : at_ + xs.length ≤ C * size) (hoff : ∀ a, ao = some a → 0 < xs.length → ¬ k.own a.block ∧ a.block ≠ b)
    (hW : W.length + pcn size at_ xs.length ≤ 900000) (hcnt : s.cnt + 2 * pcn size at_ xs.length < 100000) :
    Calls Tryz.prog 83 #[.pointer (some ⟨r, 0, none⟩), .int .i64 (at_ : Int), .slice ao xs.length cap] w fun e w' => ∃ c, e = .returned (.int .i64 c) ∧ WriteP w0 w w' n size b s k D W F at_ xs c := by
  have sh := h.disk.disk.shape
  have s0 := sh.s0
  have s1 := sh.s1
  have n1 := sh.n1
  have hall : C * size ≤ n * size := Nat.mul_le_mul_right _ (by omega)
  have hB : n * size ≤ 67108864 := sh.all
  have hFn : (F + C) * size ≤ n * size := Nat.mul_le_mul_right _ hFC
  rw [Nat.add_mul] at hFn
  have hA := now_len h.disk.disk.len h.disk.disk.fitsW
  obtain ⟨B, hBd⟩ : ∃ B, B = splice (now size D (abs W)) (F * size + at_) xs := ⟨_, rfl⟩
  obtain ⟨f, hf⟩ : ∃ f, f = full size at_ xs.length := ⟨_, rfl⟩
  obtain ⟨M, hM⟩ : ∃ M, M = pcn size at_ xs.length := ⟨_, rfl⟩
  refine gWrite_any h hr (by omega) at_ xs.length cap ao hfit (by omega) _ ?_
  intro w1 br bb hg1 hbr hbb
  have h1 := h.then hg1
  have hr1 := hr.grown hg1
  have hat1 := hat.grown hg1
  have hd := each_any w1 r b F at_ xs.length size n 116 (.pointer (some ⟨bb, 0, none⟩)) (.pointer (some ⟨br, 0, none⟩))
    (fun j w' => ∃ sj kj Wj, wgo f M 0 s = (j + (wgo f (M - j) j sj).1, (wgo f (M - j) j sj).2) ∧ sj.cnt ≤ s.cnt + 2 * j ∧ Dev w0 w' n size b sj kj D Wj ∧ DvM w1 w' b k kj W Wj ∧ abs Wj = abs W ++ pcs size F at_ B j)
    (fun c w' => c = (wgo f M 0 s).2.1 ∧ ∃ kj Wj, Dev w0 w' n size b (wgo f M 0 s).2.2 kj D Wj ∧ DvM w1 w' b k kj W Wj ∧ abs Wj = abs W ++ pcs size F at_ B (wgo f M 0 s).1)
    (.inr rfl) (by omega) s1 (by omega) (by omega) ?_ ?_ ?_ (dsize_any h1) ?_
  · have hbx : ∀ w', Kept w1 w' (fun i => k.own i ∨ i = b) → w'.heap[br]? = some (.cells #[.pointer (some ⟨r, 0, none⟩)] 65 (0, 0)) ∧ w'.heap[bb]? = some (.cells #[.slice ao xs.length cap] 39 (0, 0)) := by
      intro w' hk
      have q1 := h1.far hbr (by decide) (by decide) (by decide) (by decide)
      have q2 := h1.far hbb (by decide) (by decide) (by decide) (by decide)
      exact ⟨hk.at hbr (fun e => e.elim q1.1 q1.2), hk.at hbb (fun e => e.elim q2.1 q2.2)⟩
    refine hd.mono ?_
    rintro e w' ⟨c, rfl, ⟨rfl, sj, kj, Wj, e1, e2, e3, e4, e5⟩ | ⟨hc0, e1, kj, Wj, e3, e4, e5⟩⟩
    · rw [← hM, Nat.sub_self] at e1
      rw [← hM] at e5
      simp only [wgo, Nat.add_zero] at e1
      refine ⟨0, rfl, ⟨?_, kj, Wj, ?_, DvM.pre hg1 e4, ?_⟩, hbx _ e4.kept⟩
      · rw [← hf, ← hM, e1]
      · rw [← hf, ← hM, e1]; exact e3
      · rw [← hf, ← hM, ← hBd, e1]; exact e5
    · refine ⟨c, rfl, ⟨?_, kj, Wj, ?_, DvM.pre hg1 e4, ?_⟩, hbx _ e4.kept⟩
      · rw [← hf, ← hM]; exact e1
      · rw [← hf, ← hM]; exact e3
      · rw [← hf, ← hM, ← hBd]; exact e5
  · exact ⟨s, k, W, by rw [Nat.sub_zero, Nat.zero_add], by omega, h1, DvM.refl _ _ _ _, by simp [pcs]⟩
  · rintro j w' q ⟨sj, kj, Wj, e1, e2, e3, e4, e5⟩
    exact ⟨sj, kj, Wj, e1, e2, e3.drew q, e4.new (grown_drewN _ _ _), e5⟩
  · rintro j w' ⟨sj, kj, Wj, e1, e2, e3, e4, e5⟩
    have q1 := h1.far hr1.head (by decide) (by decide) (by decide) (by decide)
    have hr2 : RgAt w' r b F C := hr1.kept e4.kept (fun e => e.elim q1.1 q1.2)
    exact ⟨hr2.c0, hr2.c1⟩
  · rintro j w' hj ⟨sj, kj, Wj, e1, e2, e3, e4, e5⟩
    have hj2 : j < M := by omega
    obtain ⟨S, d, fr, te, N⟩ := pc_nums (by omega) (by omega) hj
    have nd := N.d1
    have nf := N.f1
    have nt := N.t1
    have nx := N.nx
    obtain ⟨a, rfl⟩ : ∃ a, ao = some a := by
      obtain ⟨a, e, _⟩ := hat 0 _ (List.getElem?_eq_getElem (show 0 < xs.length by omega))
      exact ⟨a, e⟩
    obtain ⟨oa, ob⟩ := hoff a rfl (by omega)
    have hlt : a.block < w1.heap.size := by
      obtain ⟨a', e, hc⟩ := hat1 0 _ (List.getElem?_eq_getElem (show 0 < xs.length by omega))
      cases e
      have := cell_lt hc
      rwa [addr_add_block] at this
    have hR : WrS w0 w' n size b sj kj D Wj r F C br bb a cap xs := (WrS.mk h1 hr1 hbr hbb hat1 hcap oa ob).goes e3 e4 hlt
    have hS : F + S < n := by
      obtain ⟨h1, h2, h3, h4⟩ := pc_facts (by omega) hj
      apply Nat.lt_of_mul_lt_mul_right (a := size)
      rw [Nat.add_mul, ← N.eS]
      omega
    have hWj : Wj.length = W.length + j := by
      have := congrArg List.length e5
      rw [abs_length, List.length_append, abs_length, pcs_length] at this
      exact this
    have hnow : now size D (abs Wj) = splice (now size D (abs W)) (F * size + at_) (xs.take d) := by
      rw [e5, hBd, now_pcs (by omega) hA (by omega) j (by omega), N.ed]
    have hfound : found size D Wj (F + S) = secOf size (now size D (abs Wj)) (F + S) := (now_found e3.disk.disk.len e3.disk.disk.fitsW _ hS).symm
    have hsec : splice (found size D Wj (F + S)) fr ((xs.drop d).take (te - fr)) = secOf size B (F + S) := by
      have hps := pc_sec (n := n) (F := F) (A := now size D (abs Wj)) (b := xs) (by omega) (by rw [hnow, length_splice _ _ _ (by simp; omega), hA]) hj (by omega)
      rw [N.ed, N.ef, N.et, N.eS] at hps
      rw [hfound, hps, hnow, splice_over _ _ _ _ (by omega), hBd]
    have hfl : (found size D Wj (F + S)).length = size := found_length e3.disk.disk.len e3.disk.disk.fitsW _ hS
    have hnext : abs Wj ++ [(F + S, secOf size B (F + S))] = abs W ++ pcs size F at_ B (j + 1) := by
      rw [pcs_succ, e5, List.append_assoc, N.eS]
    unfold partV
    have hfj : f j = decide (te - fr = size) := by rw [hf, full, N.et, N.ef]
    rw [N.ed, N.ef, N.et, N.eS]
    obtain ⟨q, hq⟩ : ∃ q, M - j = q + 1 := ⟨M - j - 1, by omega⟩
    have hq2 : M - (j + 1) = q := by omega
    rw [hq, wgo_step, hfj] at e1
    rw [hq2]
    have ew : w1.heap.size ≤ w'.heap.size := e4.kept.size
    have hbl : b < w1.heap.size := h1.dev.lt
    by_cases hfull : te - fr = size
    · have hfr : fr = 0 := by omega
      have hte : te = size := by omega
      subst hfr hte
      have htold : (xs.drop d).take te = secOf te B (F + S) := by
        rw [← hsec, Nat.sub_zero, splice_full _ _ (by rw [hfl]; simp; omega)]
      rw [Nat.sub_zero, decide_eq_true rfl, if_pos rfl] at e1
      have hw := wr1_full hR (by omega) (by omega) (F + S) d hS (by omega) (by omega)
      rw [htold, hnext] at hw
      refine hw.mono ?_
      rintro e w2 ⟨rfl, k5, W5, q1, q2, q3, q4⟩
      cases hgo : sj.goes with
      | true =>
        rw [hgo, if_pos rfl] at e1
        rw [hgo, ifP_t] at q3
        refine ⟨_, rfl, .inl ⟨Dv.code_ok hgo, sj.next, k5, W5, ?_, ?_, q1, e4.trans q2 hbl, q3⟩⟩
        · rw [e1]; simp only [Prod.mk.injEq, and_true]; omega
        · have := sj.next_le; omega
      | false =>
        rw [hgo] at e1
        simp only [Bool.false_eq_true, if_false, Nat.add_zero] at e1
        rw [hgo, ifP_f] at q3
        refine ⟨_, rfl, .inr ⟨by rw [Dv.code_no hgo]; omega, by rw [e1, Dv.code_no hgo], k5, W5, by rw [e1]; exact q1, e4.trans q2 hbl, by rw [e1, q3]; exact e5⟩⟩
    · rw [decide_eq_false hfull] at e1
      simp only [Bool.false_eq_true, if_false] at e1
      cases hgo : sj.goes with
      | false =>
        rw [hgo] at e1
        simp only [Bool.false_eq_true, if_false, Nat.add_zero] at e1
        refine (wr1_part hR (by omega) (by omega) (F + S) fr te d (te - fr) hS (by omega) nt (by omega) (by omega) (by omega) (by omega) 60 sj.next (abs Wj) (.inl ⟨hgo, rfl, rfl, rfl⟩)).mono ?_
        rintro e w2 ⟨rfl, k5, W5, q1, q2, q3, q4⟩
        exact ⟨_, rfl, .inr ⟨by omega, by rw [e1], k5, W5, by rw [e1]; exact q1, e4.trans q2 hbl, by rw [e1, q3]; exact e5⟩⟩
      | true =>
        rw [hgo, if_pos rfl] at e1
        refine (wr1_part hR (by omega) (by omega) (F + S) fr te d (te - fr) hS (by omega) nt (by omega) (by omega) (by omega) (by omega) _ _ _ (.inr ⟨hgo, rfl, rfl, rfl⟩)).mono ?_
        rintro e w2 ⟨rfl, k5, W5, q1, q2, q3, q4⟩
        rw [hsec, hnext] at q3
        cases hg2 : sj.next.goes with
        | true =>
          rw [hg2, if_pos rfl] at e1
          rw [hg2, ifP_t] at q3
          refine ⟨_, rfl, .inl ⟨Dv.code_ok hg2, sj.next.next, k5, W5, ?_, ?_, q1, e4.trans q2 hbl, q3⟩⟩
          · rw [e1]; simp only [Prod.mk.injEq, and_true]; omega
          · have := sj.next_le; have := sj.next.next_le; omega
        | false =>
          rw [hg2] at e1
          simp only [Bool.false_eq_true, if_false, Nat.add_zero] at e1
          rw [hg2, ifP_f] at q3
          exact ⟨_, rfl, .inr ⟨by rw [Dv.code_no hg2]; omega, by rw [e1, Dv.code_no hg2], k5, W5, by rw [e1]; exact q1, e4.trans q2 hbl, by rw [e1, q3]; exact e5⟩⟩
end
end Go.Proofs.YtonokaelbpfjnabGreatDoor
/- A device that is not armed; how many operations a read, a write makes. -/
namespace Go.Proofs.YtonokaelbpfjnabGreatDoor
open Go.RowKit Ap

/-- Up, and not armed. -/
def frD (c : Nat) : Dv := ⟨false, -1, c⟩
theorem frD_goes (c : Nat) : (frD c).goes = true := rfl
theorem frD_next (c : Nat) : (frD c).next = frD (c + 1) := rfl
theorem rgo_free (m c : Nat) : rgo m (frD c) = (0, frD (c + m)) := by
  induction m generalizing c with
  | zero => rfl
  | succ m ih => rw [rgo, if_pos (frD_goes c), frD_next, ih, show c + 1 + m = c + (m + 1) by omega]
/-- So many operations do m pieces make. -/
def cst (f : Nat → Bool) : Nat → Nat → Nat
  | 0, _ => 0
  | m + 1, k => (if f k then 1 else 2) + cst f m (k + 1)
theorem wgo_free (f : Nat → Bool) (m k c : Nat) : wgo f m k (frD c) = (m, 0, frD (c + cst f m k)) := by
  induction m generalizing c k with
  | zero => rfl
  | succ m ih =>
    rw [wgo_step, if_pos (frD_goes c), frD_next, if_pos (frD_goes _), frD_next, ih, ih, cst]
    cases f k with
    | true => simp only [if_true]; rw [show c + 1 + cst f m (k + 1) = c + (1 + cst f m (k + 1)) by omega]
    | false => simp only [Bool.false_eq_true, if_false]; rw [show c + 1 + 1 + cst f m (k + 1) = c + (2 + cst f m (k + 1)) by omega]
theorem cst_tail (f : Nat → Bool) (m k : Nat) (h : ∀ j, k ≤ j → j + 1 < k + m → f j = true) : cst f m k ≤ m + 1 := by
  induction m generalizing k with
  | zero => simp [cst]
  | succ m ih =>
    rw [cst]
    cases m with
    | zero => simp only [cst]; split <;> omega
    | succ m =>
      have := ih (k + 1) (fun j h1 h2 => h j (by omega) (by omega))
      rw [if_pos (h k (by omega) (by omega))]
      omega
theorem cst_all (f : Nat → Bool) (m : Nat) (h : ∀ j, 1 ≤ j → j + 1 < m → f j = true) : cst f m 0 ≤ m + 2 := by
  cases m with
  | zero => simp [cst]
  | succ m =>
    rw [cst, Nat.zero_add]
    have := cst_tail f m 1 (fun j h1 h2 => h j h1 (by omega))
    split <;> omega
theorem cst_le (f : Nat → Bool) (m k : Nat) : cst f m k ≤ 2 * m := by
  induction m generalizing k with
  | zero => simp [cst]
  | succ m ih => rw [cst]; have := ih (k + 1); split <;> omega
theorem full_mid {size at_ n : Nat} (hs : 0 < size) (j : Nat) (h1 : 1 ≤ j) (h2 : j + 1 < pcn size at_ n) : full size at_ n j = true := by
  obtain ⟨j, rfl⟩ : ∃ i, j = i + 1 := ⟨j - 1, by omega⟩
  have h3 := (pcn_iff hs (j + 1 + 1)).1 h2
  have hd := Nat.div_add_mod at_ size
  have hm := Nat.mod_lt at_ hs
  rw [Nat.mul_comm] at hd
  have e : (at_ / size + (j + 1)) * size = at_ / size * size + size + j * size := by rw [Nat.add_mul, Nat.add_mul]; omega
  have e2 : (at_ / size + (j + 1 + 1)) * size = (at_ / size + (j + 1)) * size + size := by rw [← Nat.add_assoc, Nat.add_mul (at_ / size + (j + 1)), Nat.one_mul]
  unfold full
  simp only [decide_eq_true_eq]
  rw [e2] at h3
  generalize (at_ / size + (j + 1)) * size = q at *
  omega
theorem pcn_le {size at_ n : Nat} (hs : 0 < size) : pcn size at_ n ≤ n / size + 2 := by
  unfold pcn
  split
  · exact Nat.zero_le _
  · have h1 := Nat.div_add_mod at_ size
    have h2 := Nat.div_add_mod n size
    have h3 := Nat.mod_lt at_ hs
    have h4 := Nat.mod_lt n hs
    have : (at_ + n - 1) / size < at_ / size + n / size + 2 := by
      rw [Nat.div_lt_iff_lt_mul hs, Nat.add_mul, Nat.add_mul, Nat.mul_comm (at_ / size), Nat.mul_comm (n / size)]
      omega
    generalize (at_ + n - 1) / size = x at *
    generalize at_ / size = y at *
    generalize n / size = z at *
    omega
theorem cst_few {size at_ n : Nat} (hs : 0 < size) : cst (full size at_ n) (pcn size at_ n) 0 ≤ n / size + 4 := by
  have := cst_all (full size at_ n) (pcn size at_ n) (fun j h1 h2 => full_mid hs j h1 h2)
  have := pcn_le (at_ := at_) (n := n) hs
  generalize n / size = z at *
  omega
/-- A write on a device that isn't armed. -/
theorem WriteP.free {w0 w w' : World} {n size b F at_ cnt : Nat} {k : Dk} {D : List Nat} {W : List Wt} {xs : List Nat} {c : Int} (h : WriteP w0 w w' n size b (frD cnt) k D W F at_ xs c) (hs : 0 < size) (hA : (now size D (abs W)).length = n * size) (hfit : F * size + at_ + xs.length ≤ n * size) :
    c = 0 ∧ ∃ k' W', Dev w0 w' n size b (frD (cnt + cst (full size at_ xs.length) (pcn size at_ xs.length) 0)) k' D W' ∧ DvM w w' b k k' W W' ∧ now size D (abs W') = splice (now size D (abs W)) (F * size + at_) xs ∧ W'.length = W.length + pcn size at_ xs.length := by
  obtain ⟨h1, k', W', h2, h3, h4⟩ := h
  rw [wgo_free] at h1 h2 h4
  refine ⟨h1, k', W', h2, h3, ?_, ?_⟩
  · rw [h4]; exact now_all hs hA hfit
  · have := congrArg List.length h4
    rw [abs_length, List.length_append, abs_length, pcs_length] at this
    exact this
end Go.Proofs.YtonokaelbpfjnabGreatDoor
/- Small calls: CopyBytes; a read that may not be. -/
namespace Go.Proofs.YtonokaelbpfjnabGreatDoor
open Go.RowKit Ap
attribute [local go_sem ↓] Go.wp_at_zero Go.wp_at_succ

set_option maxHeartbeats 400000 in
theorem copyBytes_any (ao : Option Addr) (n cap : Nat) (xs : List Nat) (w : World) (hn : xs.length = n) (hat : At w ao xs) (hnil : ao = none → n = 0 ∧ cap = 0) (hb : n ≤ 140737488355328) :
    Calls Tryz.prog 11 #[.slice ao n cap] w fun e w' => ∃ v, e = .returned v ∧ w'.ownsRow w.heap.size 5 1 v n (bv xs) ∧ w.grownBy w' none := by
  have Hn := hide hn
  clear hn
  go_enter Tryz.func11, Tryz.ntmps11
  go_wp2_with (at_builtin; refine wpList_append_at rfl (.tmp 4) (.tmp 5) rfl w.heap.size (.slice none 0 0) 0 [] rfl (World.ownsRow_nil _ _ _ _) ao n cap xs rfl Hn.out hat hnil (by omega) (Nat.le_refl _) ?_)
  intro v' w' hown hg
  obtain ⟨ao', cap', rfl, hr⟩ := own_form hown
  clear hr
  go_wp2
  go_ret
  exact ⟨_, rfl, by simpa using hown, grown_then (grown_refl w none) hg (fun k e => by cases e)⟩
theorem results_tmp4 {fn : Func} {t u v x : Tmp} (h : fn.results = #[.tmp t, .tmp u, .tmp v, .tmp x]) (tmps : Array Value) (P : Program) (w : World) :
    (results fn tmps).run P w = .ok (.tuple #[tmps.getD t undef, tmps.getD u undef, tmps.getD v undef, tmps.getD x undef]) w := by
  simp [results, h]
set_option maxRecDepth 20000 in
set_option maxHeartbeats 1000000 in
/-- A read that may not be. -/
theorem gRead_bad {w0 w : World} {n size b r F C : Nat} {s : Dv} {k : Dk} {D : List Nat} {W : List Wt} (h : Dev w0 w n size b s k D W) (hr : RgAt w r b F C) (hC : C ≤ 65536) (at_ m : Int) (hat : at_ ≤ 9223372036854775807) (hbad : mcode (C * size) at_ m = 2) :
    Calls Tryz.prog 50 #[.pointer (some ⟨r, 0, none⟩), .int .i64 at_, .int .i64 m] w fun e w' => e = .returned (.tuple #[.slice none 0 0, .int .i64 2]) ∧ w.grownBy w' none := by
  have HM : Hid (∀ w1 : World, w.grownBy w1 none → Calls Tryz.prog 85 #[.pointer (some ⟨r, 0, none⟩), .int .i64 at_, .int .i64 m] w1 fun e w' => e = .returned (.int .i64 2) ∧ w1.grownBy w' none) := by
    intro w1 hg
    have := gmay_at (h.then hg) (hr.grown hg) hC at_ m hat
    rw [hbad] at this
    exact this.mono (by rintro e w' ⟨rfl, q, rfl⟩; exact ⟨rfl, grown_drewN _ _ _⟩)
  have G1 := hide (World.grownBy_alloc w (.cells #[.pointer (some ⟨r, 0, none⟩)] 65) none)
  have N1 : Hid ((w.alloc (.cells #[.pointer (some ⟨r, 0, none⟩)] 65)).heap[w.heap.size]? = some (.cells #[.pointer (some ⟨r, 0, none⟩)] 65 (0, 0))) := heap_alloc_new w _
  have c0 : (w.alloc (.cells #[.pointer (some ⟨r, 0, none⟩)] 65)).cell? ⟨w.heap.size, 0, none⟩ = some (.pointer (some ⟨r, 0, none⟩)) := cell_row (l := [_]) N1.out 0
  clear h hr hbad
  go_enter Tryz.func50, Tryz.ntmps50
  go_wp2_with fail
  refine (HM.out _ G1.out).mono ?_
  rintro e w2 ⟨rfl, g2⟩
  have G2 := hide (grown_trans G1.out g2)
  clear g2
  go_wp2
  go_ret2
  exact ⟨rfl, G2.out⟩
end Go.Proofs.YtonokaelbpfjnabGreatDoor
/- No region, no device. -/
namespace Go.Proofs.YtonokaelbpfjnabGreatDoor
open Go.RowKit Ap
attribute [local go_sem ↓] Go.wp_at_zero Go.wp_at_succ

theorem NoRegion.grown {w w' : World} {p : Option Addr} (h : NoRegion w p) (hg : w.grownBy w' none) : NoRegion w' p := h.imp id (fun ⟨a, e, hc⟩ => ⟨a, e, hg.cell hc (by simp)⟩)
section
variable {w : World} {p : Option Addr}
set_option maxHeartbeats 400000 in
theorem gmay_none (h : NoRegion w p) (at_ m : Int) : Calls Tryz.prog 85 #[.pointer p, .int .i64 at_, .int .i64 m] w fun e w' => e = .returned (.int .i64 1) ∧ w' = w := by
  have H := hide (gnone_no p w h)
  clear h
  go_enter Tryz.func85, Tryz.ntmps85
  go_wp2_with fail
  refine H.out.mono ?_
  rintro e w' ⟨rfl, rfl⟩
  go_wp2
  go_ret
  exact ⟨rfl, rfl⟩
set_option maxHeartbeats 400000 in
theorem gRead_none (h : NoRegion w p) (at_ m : Int) : Calls Tryz.prog 50 #[.pointer p, .int .i64 at_, .int .i64 m] w fun e w' => e = .returned (.tuple #[.slice none 0 0, .int .i64 1]) ∧ w.grownBy w' none := by
  have G1 := hide (World.grownBy_alloc w (.cells #[.pointer p] 65) none)
  have N1 : Hid ((w.alloc (.cells #[.pointer p] 65)).heap[w.heap.size]? = some (.cells #[.pointer p] 65 (0, 0))) := heap_alloc_new w _
  have c0 : (w.alloc (.cells #[.pointer p] 65)).cell? ⟨w.heap.size, 0, none⟩ = some (.pointer p) := cell_row (l := [_]) N1.out 0
  have H := hide (gmay_none (h.grown G1.out) at_ m)
  clear h
  go_enter Tryz.func50, Tryz.ntmps50
  go_wp2_with fail
  refine H.out.mono ?_
  rintro e w' ⟨rfl, rfl⟩
  go_wp2
  go_ret2
  exact ⟨rfl, G1.out⟩
set_option maxHeartbeats 400000 in
theorem gWrite_none (h : NoRegion w p) (at_ : Int) : Calls Tryz.prog 83 #[.pointer p, .int .i64 at_, .slice none 0 0] w fun e w' => e = .returned (.int .i64 1) ∧ w.grownBy w' none := by
  have g1 := World.grownBy_alloc w (.cells #[.pointer p] 65) none
  have g2 := World.grownBy_alloc (w.alloc (.cells #[.pointer p] 65)) (.cells #[.slice none 0 0] 39) none
  have z1 : (w.alloc (.cells #[.pointer p] 65)).heap.size = w.heap.size + 1 := Array.size_push ..
  have n1 : (w.alloc (.cells #[.pointer p] 65)).heap[w.heap.size]? = some (.cells #[.pointer p] 65 (0, 0)) := heap_alloc_new w _
  have n2 := heap_alloc_new (w.alloc (.cells #[.pointer p] 65)) (.cells #[.slice none 0 0] 39)
  rw [z1] at n2
  have n1' := (g2.block _ (row_lt n1) (by simp)).trans n1
  have G1 := hide (grown_trans g1 g2)
  have c0 : ((w.alloc (.cells #[.pointer p] 65)).alloc (.cells #[.slice none 0 0] 39)).cell? ⟨w.heap.size, 0, none⟩ = some (.pointer p) := cell_row (l := [_]) n1' 0
  have c1 : ((w.alloc (.cells #[.pointer p] 65)).alloc (.cells #[.slice none 0 0] 39)).cell? ⟨w.heap.size + 1, 0, none⟩ = some (.slice none 0 0) := cell_row (l := [_]) n2 0
  have H := hide (gmay_none (h.grown G1.out) at_ 0)
  clear h g1 g2 z1 n1 n2 n1'
  go_enter Tryz.func83, Tryz.ntmps83
  go_wp2_with fail
  refine H.out.mono ?_
  rintro e w' ⟨rfl, rfl⟩
  go_wp2
  go_ret
  exact ⟨rfl, G1.out⟩
set_option maxHeartbeats 400000 in
theorem gSync_none (h : NoRegion w p) : Calls Tryz.prog 84 #[.pointer p] w fun e w' => e = .returned (.int .i64 1) ∧ w' = w := by
  have H := hide (gnone_no p w h)
  clear h
  go_enter Tryz.func84, Tryz.ntmps84
  go_wp2_with fail
  refine H.out.mono ?_
  rintro e w' ⟨rfl, rfl⟩
  go_wp2
  go_ret
  exact ⟨rfl, rfl⟩
set_option maxHeartbeats 400000 in
theorem gBytes_none (h : NoRegion w p) : Calls Tryz.prog 44 #[.pointer p] w fun e w' => e = .returned (.int .i64 0) ∧ w' = w := by
  have H := hide (gnone_no p w h)
  clear h
  go_enter Tryz.func44, Tryz.ntmps44
  go_wp2_with fail
  refine H.out.mono ?_
  rintro e w' ⟨rfl, rfl⟩
  go_wp2
  go_ret
  exact ⟨rfl, rfl⟩
set_option maxHeartbeats 400000 in
theorem gSize_none (h : NoRegion w p) : Calls Tryz.prog 45 #[.pointer p] w fun e w' => e = .returned (.int .i64 0) ∧ w' = w := by
  have H := hide (gnone_no p w h)
  clear h
  go_enter Tryz.func45, Tryz.ntmps45
  go_wp2_with fail
  refine H.out.mono ?_
  rintro e w' ⟨rfl, rfl⟩
  go_wp2
  go_ret
  exact ⟨rfl, rfl⟩
end
/-- No device: nil, or none that was made. -/
def NoDev (w : World) (p : Option Addr) : Prop := p = none ∨ ∃ b, p = some ⟨b, 0, none⟩ ∧ w.cell? ⟨b, 1, none⟩ = some (.bool false)
theorem NoDev.is {w : World} {p : Option Addr} (h : NoDev w p) : Calls Tryz.prog 77 #[.pointer p] w fun e w' => e = .returned (.bool true) ∧ w' = w := by
  rcases h with rfl | ⟨b, rfl, hc⟩
  · exact dnone_nil w
  · exact dnone_at b false w hc
set_option maxHeartbeats 400000 in
theorem dsectors_none {w : World} {p : Option Addr} (h : NoDev w p) : Calls Tryz.prog 42 #[.pointer p] w fun e w' => e = .returned (.int .i64 0) ∧ w' = w := by
  have H := hide h.is
  clear h
  go_enter Tryz.func42, Tryz.ntmps42
  go_wp2_with fail
  refine H.out.mono ?_
  rintro e w' ⟨rfl, rfl⟩
  go_wp2
  go_ret
  exact ⟨rfl, rfl⟩
set_option maxHeartbeats 1000000 in
theorem gnew_none {w : World} {p : Option Addr} (h : NoDev w p) (F C : Int) : Calls Tryz.prog 20 #[.pointer p, .agg #[.int .i64 F, .int .i64 C]] w fun e w' => e = .returned (.tuple #[.pointer none, .int .i64 1]) ∧ w.grownBy w' none := by
  have G1 := hide (World.grownBy_alloc w (.cells #[.int .i64 F, .int .i64 C] 53) none)
  have H : Hid (Calls Tryz.prog 42 #[.pointer p] (w.alloc (.cells #[.int .i64 F, .int .i64 C] 53)) fun e w' => e = .returned (.int .i64 0) ∧ w' = w.alloc (.cells #[.int .i64 F, .int .i64 C] 53)) := dsectors_none (h.imp id (fun ⟨b, e, hc⟩ => ⟨b, e, G1.out.cell hc (by simp)⟩))
  clear h
  go_enter Tryz.func20, Tryz.ntmps20
  go_wp2_with fail
  refine H.out.mono ?_
  rintro e w' ⟨rfl, rfl⟩
  go_wp2
  go_ret2
  exact ⟨rfl, G1.out⟩
end Go.Proofs.YtonokaelbpfjnabGreatDoor
/- What a Writer, a Reader and rows of bytes are in memory, and which steps keep them: plain lemmas, without the program. -/
namespace Go.Proofs.YtonokaelbpfjnabGreatDoor.Fm
open Go.RowKit

theorem hide {p : Prop} (h : p) : Hid p := h

/-- xs lies, byte by byte, where ao leads. -/
def At (w : World) (ao : Option Addr) (xs : List Int) : Prop := ∀ j u, xs[j]? = some u → ∃ a, ao = some a ∧ w.cell? (a.add j) = some (.int .u8 u)
/-- A slice's address behind '[n:]'. -/
def cutA (ao : Option Addr) (n cap : Nat) : Option Addr := if cap = n then ao else ao.map (fun x => x.add n)
/-- The slice does not lie in block g. -/
def Off (ao : Option Addr) (g : Nat) : Prop := ∀ a, ao = some a → a.block ≠ g

theorem Off.cut {ao : Option Addr} {g : Nat} (h : Off ao g) (n cap : Nat) : Off (cutA ao n cap) g := by
  intro a ha
  unfold cutA at ha
  split at ha
  · exact h a ha
  · cases ao with
    | none => simp at ha
    | some x =>
      simp at ha
      have := h x rfl
      rw [← ha]; unfold Addr.add; split <;> simp_all

theorem At.nil (w : World) (ao : Option Addr) : At w ao [] := fun j u h => by simp at h

theorem addr_add_block (a : Addr) (j : Nat) : (a.add j).block = a.block := by unfold Addr.add; split <;> rfl

theorem At.cut {w : World} {ao : Option Addr} {xs : List Int} (h : At w ao xs) (n cap : Nat) (hc : xs.length ≤ cap) : At w (cutA ao n cap) (xs.drop n) := by
  intro j u hu
  rw [List.getElem?_drop] at hu
  obtain ⟨a, ha, hcell⟩ := h _ _ hu
  unfold cutA
  split
  · rename_i e
    have := (List.getElem?_eq_some_iff.1 hu).1
    omega
  · refine ⟨a.add n, by simp [ha], ?_⟩
    rw [Addr.add_add]; exact hcell

theorem At.take {w : World} {ao : Option Addr} {xs : List Int} (h : At w ao xs) (n : Nat) : At w ao (xs.take n) := by
  intro j u hu
  rw [List.getElem?_take] at hu
  split at hu
  · exact h j u hu
  · cases hu

theorem At.kept {w w' : World} {ao : Option Addr} {xs : List Int} {row : Option Nat} (h : At w ao xs) (hg : w.grownBy w' row) (hr : ∀ a, ao = some a → some a.block ≠ row) : At w' ao xs := by
  intro j u hu
  obtain ⟨a, ha, hcell⟩ := h j u hu
  exact ⟨a, ha, hg.cell hcell (by rw [addr_add_block]; exact hr a ha)⟩

theorem Off.ne {ao : Option Addr} {g : Nat} (h : Off ao g) : ∀ a, ao = some a → some a.block ≠ some g := fun a ha e => h a ha (by simpa using e)

/-- Two steps, one behind the other. -/
theorem grown_then {a b c : World} {row row' : Option Nat} (h : a.grownBy b row) (k : b.grownBy c row') (hr : ∀ j, row' = some j → a.heap.size ≤ j ∨ row = some j) : a.grownBy c row :=
  ⟨k.os.trans h.os, k.tape.trans h.tape, k.output.trans h.output, Nat.le_trans h.size k.size, fun i hi hne =>
    (k.block i (Nat.lt_of_lt_of_le hi h.size) (fun e => by
      rcases hr i e.symm with h1 | h1
      · omega
      · exact hne h1.symm)).trans (h.block i hi hne)⟩
theorem grown_trans {a b c : World} {row : Option Nat} (h : a.grownBy b row) (k : b.grownBy c row) : a.grownBy c row := grown_then h k (fun _ e => Or.inr e)
theorem grown_refl (w : World) (row : Option Nat) : w.grownBy w row := ⟨rfl, rfl, rfl, Nat.le_refl _, fun _ _ _ => rfl⟩
theorem grown_drew (w : World) (row : Option Nat) : w.grownBy w.drew row := ⟨rfl, rfl, rfl, Nat.le_refl _, fun _ _ _ => rfl⟩
theorem grown_none {a b : World} (h : a.grownBy b none) (row : Option Nat) : a.grownBy b row := grown_then (grown_refl a row) h (fun _ e => by cases e)
theorem grown_setCell (w : World) (g j : Nat) (u : Value) : w.grownBy (w.setCell ⟨g, j, none⟩ u) (some g) :=
  ⟨rfl, rfl, rfl, by simp [World.setCell], fun k _ hne => Below.heap_setCell _ _ _ _ (by intro e; exact hne (by simp [e]))⟩
theorem grown_setRow (w : World) (g : Nat) (cs : Array Value) : w.grownBy (w.setRow g cs) (some g) :=
  ⟨rfl, rfl, rfl, by simp [World.setRow], fun k _ hne => setRow_other w g k cs (by intro e; exact hne (by simp [e]))⟩

/-- copy as one step of a region that draws its order: the row behind it, and that no other block has turned. -/
theorem step_copy_grown {P : Program} {ops : Array Oper} {o : Oper} {a : Act} {w : World} {K : Act → World → Prop} {Q : Exit → Act → World → Prop} {E : Prop} (hgd : o.guard = none) (d s : Operand) (dT sT : TypeId)
    (ho : o.op = .call { callee := .builtin .copy, args := #[d, s], argTypes := #[dT, sT] }) (elem : TypeId) (hu : P.underlying dT = some (.slice elem)) (hsz : (P.info? elem).map (·.size) = some 1)
    (dp sp : Option Addr) (dLen dCap sLen sCap : Nat) (hd : a.eval d = .slice dp dLen dCap) (hs : a.eval s = .slice sp sLen sCap)
    (g off : Nat) (cur : List Value) (t : TypeId) (hg : w.heap[g]? = some (.cells cur.toArray t (0, 0))) (cs : List Value) (hn : cs.length = Nat.min sLen dLen)
    (hpos : 0 < cs.length → dp = some ⟨g, off, none⟩ ∧ ∃ ad, sp = some ad ∧ ∀ j v, cs[j]? = some v → w.cell? (ad.add j) = some v)
    (hfit : off + cs.length ≤ cur.length) (h1 : ∀ v ∈ cs, v.oneCell' = true)
    (h : ∀ w', Hid (w'.heap[g]? = some (.cells (splice cur off cs).toArray t (0, 0))) → w.grownBy w' (some g) → K (a.put o.dst (goInt cs.length)) w') :
    if Region.wanted o (yielded ops a.tmps) = true then Oper.wp P o a w K Q else E := by
  have hw : Region.wanted o (yielded ops a.tmps) = true := by simp [Region.wanted, hgd]
  rw [if_pos hw]
  by_cases h0 : cs.length = 0
  · obtain rfl : cs = [] := List.eq_nil_of_length_eq_zero h0
    have hrun := run_copy_none (P := P) w dT sT o.type elem dp sp dLen dCap sLen sCap hu hsz (by simpa using hn.symm)
    unfold Oper.wp
    simp [execOp, ho, resolve, invoke, builtin, hd, hs, hrun, Result.andThen]
    exact h w (show _ = _ by simpa [splice] using hg) (grown_refl w _)
  · obtain ⟨rfl, ad, rfl, hsrc⟩ := hpos (by omega)
    have hrun := run_copy_row (P := P) w dT sT o.type elem g off dLen dCap ad sLen sCap cur.toArray t cs hu hsz hg hn hsrc (by simpa using hfit) h1
    unfold Oper.wp
    simp [execOp, ho, resolve, invoke, builtin, hd, hs, hrun, Result.andThen]
    exact h _ (show _ = _ by simpa [splice] using setRow_heap w g _ _ t _ hg) (grown_setRow w g _)

/-- What lies in n cells from offset o of block b on; that they are there; an address' block and offset. -/
def rangeOf (w : World) (b o n : Nat) : List Value := (List.range n).map fun j => (w.cell? ⟨b, o + j, none⟩).getD undef
def rangeOk (w : World) (b o n : Nat) : Prop := ∀ j, j < n → (w.cell? ⟨b, o + j, none⟩).isSome = true
def blkOf : Value → Nat | .pointer (some a) => a.block | _ => 0
def offOf : Value → Nat | .pointer (some a) => a.off | _ => 0
def isPtr : Value → Bool | .pointer (some ⟨_, _, none⟩) => true | _ => false
theorem blkOf_ptr (b o : Nat) : blkOf (.pointer (some ⟨b, o, none⟩)) = b := rfl
theorem offOf_ptr (b o : Nat) : offOf (.pointer (some ⟨b, o, none⟩)) = o := rfl
theorem isPtr_ptr (b o : Nat) : isPtr (.pointer (some ⟨b, o, none⟩)) = true := rfl
theorem ptr_of {v : Value} (h : isPtr v = true) : v = .pointer (some ⟨blkOf v, offOf v, none⟩) := by
  unfold isPtr at h; split at h
  · rfl
  · cases h
theorem rangeOk.at {w : World} {b o n : Nat} (h : rangeOk w b o n) : w.rangeAt b o (rangeOf w b o n) := by
  intro j v hv
  unfold rangeOf at hv
  rw [List.getElem?_map] at hv
  cases hj : (List.range n)[j]? with
  | none => simp [hj] at hv
  | some k =>
    have hk := List.getElem?_eq_some_iff.1 hj
    obtain ⟨hlt, he⟩ := hk
    simp at he hlt
    subst he
    simp [hj] at hv
    have := h j hlt
    cases hc : w.cell? ⟨b, o + j, none⟩ with
    | none => simp [hc] at this
    | some x => simp [hc] at hv; rw [hv]
theorem rangeOf_length (w : World) (b o n : Nat) : (rangeOf w b o n).length = n := by simp [rangeOf]
theorem rangeOf_eq {w : World} {b o n : Nat} {l : List Value} (h : w.rangeAt b o l) (hl : l.length = n) : rangeOf w b o n = l := by
  apply List.ext_getElem?
  intro j
  unfold rangeOf
  rw [List.getElem?_map]
  by_cases hj : j < n
  · have hjl : j < l.length := by omega
    rw [List.getElem?_eq_getElem hjl, List.getElem?_range hj]
    simp [h j _ (List.getElem?_eq_getElem hjl)]
  · rw [List.getElem?_eq_none (by simp; omega), List.getElem?_eq_none (by omega)]; rfl
theorem rangeOk_of {w : World} {b o n : Nat} {l : List Value} (h : w.rangeAt b o l) (hl : l.length = n) : rangeOk w b o n := by
  intro j hj
  have hjl : j < l.length := by omega
  rw [h j _ (List.getElem?_eq_getElem hjl)]; rfl
/-- A load of a long array, as an equation. -/
theorem wp_load_range {P : Program} {op : Oper} {a : Act} {w : World} {K : Act → World → Prop} {Q : Exit → Act → World → Prop} (ty : TypeId) (x : Operand) (ho : op.op = .load ty x) (d : TypeDesc) (n : Nat)
    (hu : P.underlying ty = some d) (hd : d.isRow = true) (hi : (P.info? ty).map (·.size) = some n) (hx : isPtr (a.eval x) = true) (hr : rangeOk w (blkOf (a.eval x)) (offOf (a.eval x)) n) :
    op.wp P a w K Q = K (a.put op.dst (.agg (rangeOf w (blkOf (a.eval x)) (offOf (a.eval x)) n).toArray)) w := by
  unfold Oper.wp execOp
  rw [ho]
  have hp := ptr_of hx
  have hl := run_loadVar_mid (P := P) w (blkOf (a.eval x)) (offOf (a.eval x)) ty _ d hr.at hu hd (by rw [rangeOf_length]; exact hi)
  simp only [Instr.loadAt]
  rw [hp]
  simp only [Instr.sureAddr, Sem.run_bind, Sem.run_pure, Result.andThen_ok, blkOf_ptr, offOf_ptr, hl]
  rfl

/-- The cells of a Writer: what is sealed, the open bytes, the length. -/
def wrow (v : Value) (op : List Int) (L : Nat) : List Value := v :: (op.map (Value.int .u8) ++ [.int .i64 (L : Int)])
theorem wrow_length (v : Value) (op : List Int) (L : Nat) : (wrow v op L).length = op.length + 2 := by simp [wrow]
theorem wrow_zero (v : Value) (op : List Int) (L : Nat) : (wrow v op L)[0]? = some v := rfl
theorem wrow_last (v : Value) (op : List Int) (L : Nat) (h : op.length = 64) : (wrow v op L)[65]? = some (.int .i64 (L : Int)) := by
  simp [wrow, h]
theorem wrow_open (v : Value) (op : List Int) (L j : Nat) (h : j < op.length) : (wrow v op L)[1 + j]? = some (.int .u8 op[j]) := by
  rw [Nat.add_comm]; simp [wrow, List.getElem?_append, h]
theorem wrow_set_last (v : Value) (op : List Int) (L M : Nat) (h : op.length = 64) : (wrow v op L).set 65 (.int .i64 (M : Int)) = wrow v op M := by
  simp [wrow, h]
theorem wrow_set_zero (v v' : Value) (op : List Int) (L : Nat) : (wrow v op L).set 0 v' = wrow v' op L := rfl
theorem wrow_splice (v : Value) (op xs : List Int) (L r : Nat) (h : r + xs.length ≤ op.length) : splice (wrow v op L) (1 + r) (xs.map (Value.int .u8)) = wrow v (splice op r xs) L := by
  have e0 : 1 + r = r + 1 := by omega
  have e : r + 1 + xs.length = (r + xs.length) + 1 := by omega
  have h2 : r + xs.length - op.length = 0 := by omega
  have h3 : r - op.length = 0 := by omega
  simp only [splice, wrow, List.length_map, e0, e]
  simp [List.take_append, List.drop_append, h2, h3]

theorem cell_row {w : World} {g : Nat} {l : List Value} {t : TypeId} {fr : Nat × Nat} (h : w.heap[g]? = some (.cells l.toArray t fr)) (j : Nat) : w.cell? ⟨g, j, none⟩ = l[j]? := by
  rw [cell_of_row w g j l.toArray t fr h]; simp
theorem free_row {w : World} {g : Nat} {c : Array Value} {t : TypeId} (h : w.heap[g]? = some (.cells c t (0, 0))) (j : Nat) : w.frozen? ⟨g, j, none⟩ = false := by
  simp [World.frozen?, h]
theorem row_setCell {w : World} {g : Nat} {l : List Value} {t : TypeId} {fr : Nat × Nat} (h : w.heap[g]? = some (.cells l.toArray t fr)) (j : Nat) (u : Value) : (w.setCell ⟨g, j, none⟩ u).heap[g]? = some (.cells (l.set j u).toArray t fr) := by
  simp [World.setCell, Array.getElem?_modify, h]
theorem row_lt {w : World} {g : Nat} {o : Obj} (h : w.heap[g]? = some o) : g < w.heap.size := (Array.getElem?_eq_some_iff.1 h).1

theorem fold_set (l : List Value) : ∀ (k : Nat) (A : Array Value), 1 + k + l.length ≤ A.size →
    (List.foldl (fun (cs : Array Value) (x : Value × Nat) => cs.setIfInBounds (1 + x.snd) x.fst) A (l.zipIdx k)).toList = A.toList.take (1 + k) ++ l ++ A.toList.drop (1 + k + l.length) := by
  induction l with
  | nil => intro k A _; simp
  | cons y l ih =>
    intro k A h
    simp only [List.length_cons] at h
    rw [List.zipIdx_cons, List.foldl_cons, ih (k + 1) _ (by simp; omega)]
    have hk : 1 + k < A.toList.length := by simp; omega
    have e1 : (A.setIfInBounds (1 + k) y).toList = A.toList.set (1 + k) y := by simp
    have e2 : 1 + (k + 1) = 1 + k + 1 := by omega
    have e3 : 1 + k + 1 + l.length = 1 + k + (l.length + 1) := by omega
    rw [e1, e2, List.take_succ_eq_append_getElem (by simpa using hk), List.length_cons, e3]
    simp [List.take_set_of_le, List.drop_set]

theorem fold_block (z : Array Value) (p : Value) (l : List Value) (hz : z.size = 65) (hl : l.length = 64) :
    List.foldl (fun (cs : Array Value) (x : Value × Nat) => cs.setIfInBounds (1 + x.snd) x.fst) (z.setIfInBounds 0 p) l.zipIdx = (p :: l).toArray := by
  apply Array.ext'
  rw [show l.zipIdx = l.zipIdx 0 from rfl, fold_set l 0 _ (by simp; omega)]
  have h1 : z.toList.length = 65 := by simpa using hz
  obtain ⟨a, t, ht⟩ : ∃ a t, z.toList = a :: t := by
    cases h : z.toList with
    | nil => rw [h] at h1; cases h1
    | cons a t => exact ⟨a, t, rfl⟩
  have ht2 : t.length = 64 := by rw [ht] at h1; simpa using h1
  have e1 : (z.setIfInBounds 0 p).toList = p :: t := by simp [ht]
  rw [e1, hl]
  simp [ht2]

/-- The sealed blocks, the newest first. -/
def Chain (w : World) : Value → List (List Int) → Prop
  | v, [] => v = .pointer none
  | v, c :: cs => ∃ g v', v = .pointer (some ⟨g, 0, none⟩) ∧ w.heap[g]? = some (.cells (v' :: c.map (Value.int .u8)).toArray 151 (0, 0)) ∧ c.length = 64 ∧ Chain w v' cs

/-- The row that may be written is no sealed block. -/
def NoBlock (w : World) (row : Option Nat) : Prop := ∀ k c fr, row = some k → w.heap[k]? ≠ some (.cells c 151 fr)

theorem Chain.kept {w w' : World} {row : Option Nat} (hg : w.grownBy w' row) (hr : NoBlock w row) : ∀ (cs : List (List Int)) (v : Value), Chain w v cs → Chain w' v cs
  | [], _, h => h
  | _ :: cs, _, ⟨g, v', hv, hb, hl, hc⟩ => ⟨g, v', hv, (hg.block g (row_lt hb) (fun e => hr g _ _ e.symm hb)).trans hb, hl, Chain.kept hg hr cs v' hc⟩

theorem Chain.ptr {w : World} {v : Value} {cs : List (List Int)} (h : Chain w v cs) : ∃ u, v = .pointer u := by
  cases cs with
  | nil => exact ⟨_, h⟩
  | cons c cs => obtain ⟨g, v', hv, _⟩ := h; exact ⟨_, hv⟩

theorem NoBlock.none (w : World) : NoBlock w none := fun _ _ _ e => by cases e
theorem NoBlock.of {w : World} {g : Nat} {c : Array Value} {t : TypeId} {fr : Nat × Nat} (h : w.heap[g]? = some (.cells c t fr)) (ht : t ≠ 151) : NoBlock w (some g) := by
  intro k c' fr' e h'
  cases e
  rw [h] at h'
  simp at h'
  exact ht h'.2.1

/-- The Writer at the head of block g holds the bytes bs. -/
def WrAt (w : World) (g : Nat) (bs : List Int) : Prop :=
  ∃ v cs op, w.heap[g]? = some (.cells (wrow v op bs.length).toArray 94 (0, 0)) ∧ op.length = 64 ∧ Chain w v cs ∧ bs = cs.reverse.flatten ++ op.take (bs.length % 64)

theorem WrAt.kept {w w' : World} {g : Nat} {bs : List Int} {row : Option Nat} (h : WrAt w g bs) (hg : w.grownBy w' row) (hne : row ≠ some g) (hr : NoBlock w row) : WrAt w' g bs := by
  obtain ⟨v, cs, op, hb, hl, hc, he⟩ := h
  exact ⟨v, cs, op, (hg.block g (row_lt hb) (fun e => hne e.symm)).trans hb, hl, Chain.kept hg hr cs v hc, he⟩
theorem WrAt.lt {w : World} {g : Nat} {bs : List Int} (h : WrAt w g bs) : g < w.heap.size := by obtain ⟨v, cs, op, hb, _⟩ := h; exact row_lt hb
theorem WrAt.noBlock {w : World} {g : Nat} {bs : List Int} (h : WrAt w g bs) : NoBlock w (some g) := by obtain ⟨v, cs, op, hb, _⟩ := h; exact NoBlock.of hb (by decide)

theorem take_splice {α : Type} (op X : List α) (r : Nat) (h : r + X.length ≤ op.length) : (splice op r X).take (r + X.length) = op.take r ++ X := by
  have hr : (op.take r).length = r := by simp; omega
  rw [splice, ← List.append_assoc, List.take_append_of_le_length (by simp; omega)]
  exact List.take_of_length_le (by simp; omega)

/-- A round that leaves the open block open. -/
theorem wr_more {w' : World} {g M : Nat} {bs X op : List Int} {v : Value} {cs : List (List Int)} (hl : op.length = 64) (he : bs = cs.reverse.flatten ++ op.take (bs.length % 64)) (hc : Chain w' v cs)
    (hlt : bs.length % 64 + X.length < 64) (hb : w'.heap[g]? = some (.cells (wrow v (splice op (bs.length % 64) X) M).toArray 94 (0, 0))) (hM : M = bs.length + X.length) : WrAt w' g (bs ++ X) := by
  subst hM
  refine ⟨v, cs, splice op (bs.length % 64) X, by simpa using hb, by rw [length_splice _ _ _ (by omega)]; exact hl, hc, ?_⟩
  have e : (bs ++ X).length % 64 = bs.length % 64 + X.length := by simp; omega
  rw [e, take_splice _ _ _ (by omega), ← List.append_assoc, ← he]

/-- A round that seals it. -/
theorem wr_seal {w' : World} {g h M : Nat} {bs X op : List Int} {v : Value} {cs : List (List Int)} (hl : op.length = 64) (he : bs = cs.reverse.flatten ++ op.take (bs.length % 64)) (hc : Chain w' v cs)
    (hlt : bs.length % 64 + X.length = 64) (hb : w'.heap[g]? = some (.cells (wrow (.pointer (some ⟨h, 0, none⟩)) (splice op (bs.length % 64) X) M).toArray 94 (0, 0)))
    (hs : w'.heap[h]? = some (.cells (v :: (splice op (bs.length % 64) X).map (Value.int .u8)).toArray 151 (0, 0))) (hM : M = bs.length + X.length) : WrAt w' g (bs ++ X) := by
  subst hM
  have hl' : (splice op (bs.length % 64) X).length = 64 := by rw [length_splice _ _ _ (by omega)]; exact hl
  refine ⟨_, splice op (bs.length % 64) X :: cs, splice op (bs.length % 64) X, by simpa using hb, hl', ⟨h, v, rfl, hs, hl', hc⟩, ?_⟩
  have e : (bs ++ X).length % 64 = 0 := by simp; omega
  have e2 : splice op (bs.length % 64) X = op.take (bs.length % 64) ++ X := by
    rw [← take_splice _ _ _ (by omega)]
    exact (List.take_of_length_le (by rw [hl']; omega)).symm
  rw [e, e2]
  simp only [List.reverse_cons, List.flatten_append, List.flatten_cons, List.flatten_nil, List.take_zero, List.append_nil]
  rw [← List.append_assoc, ← he]

/-- A round's end: what is still to be put, what has been. -/
theorem round_end {w wr w4 : World} {g n m gk q cap cap' : Nat} {ao' : Option Addr} {xs ys bs bs' X : List Int} (hkm : gk + m = n) (hys : ys = xs.drop m) (hbs' : bs' = bs ++ xs.take m) (hX : X = ys.take q) (hq1 : q ≤ gk)
    (hyl : ys.length = gk) (hkc : gk ≤ cap') (hcc : cap' ≤ cap) (hat : At wr ao' ys) (ho : Off ao' g) (hgr : w.grownBy wr (some g)) (hg4 : wr.grownBy w4 (some g)) (hwr : WrAt w4 g (bs' ++ X)) :
    ∃ m' ao1 cap1, gk - q + m' = n ∧ Value.slice (cutA ao' q cap') (gk - q) (cap' - q) = Value.slice ao1 (gk - q) cap1 ∧ gk - q ≤ cap1 ∧ cap1 ≤ cap ∧ Off ao1 g ∧ At w4 ao1 (xs.drop m') ∧ WrAt w4 g (bs ++ xs.take m') ∧ w.grownBy w4 (some g) := by
  refine ⟨m + q, cutA ao' q cap', cap' - q, by omega, rfl, by omega, by omega, ho.cut q cap', ?_, ?_, grown_trans hgr hg4⟩
  · have h1 := (hat.kept hg4 ho.ne).cut q cap' (by omega)
    rw [hys, List.drop_drop] at h1
    exact h1
  · rw [hbs', hX, hys] at hwr
    rw [List.take_add, ← List.append_assoc]
    exact hwr

/-- The world behind a sealing: the new block lies there, the Writer leads to it. -/
theorem seal_world {w3 : World} {g s : Nat} {u : Option Addr} {op : List Int} {L : Nat} {F : Array Value} (h3 : w3.heap[g]? = some (.cells (wrow (.pointer u) op L).toArray 94 (0, 0))) (hs : w3.heap.size = s)
    (hF : F = (.pointer u :: op.map (Value.int .u8)).toArray) :
    (((w3.alloc (.cells F 151)).setCell ⟨g, 0, none⟩ (.pointer (some ⟨s, 0, none⟩))).drew).heap[g]? = some (.cells (wrow (.pointer (some ⟨s, 0, none⟩)) op L).toArray 94 (0, 0)) ∧
    (((w3.alloc (.cells F 151)).setCell ⟨g, 0, none⟩ (.pointer (some ⟨s, 0, none⟩))).drew).heap[s]? = some (.cells (.pointer u :: op.map (Value.int .u8)).toArray 151 (0, 0)) ∧
    w3.grownBy (((w3.alloc (.cells F 151)).setCell ⟨g, 0, none⟩ (.pointer (some ⟨s, 0, none⟩))).drew) (some g) := by
  have hlt := row_lt h3
  have h4 : (w3.alloc (.cells F 151)).heap[g]? = some (.cells (wrow (.pointer u) op L).toArray 94 (0, 0)) := (Below.heap_alloc _ _ _ hlt).trans h3
  refine ⟨?_, ?_, ?_⟩
  · have := row_setCell h4 0 (.pointer (some ⟨s, 0, none⟩))
    rw [wrow_set_zero] at this
    exact this
  · show ((w3.alloc (.cells F 151)).setCell ⟨g, 0, none⟩ (.pointer (some ⟨s, 0, none⟩))).heap[s]? = _
    rw [Below.heap_setCell _ _ _ _ (by simp; omega), ← hs, ← hF]
    exact heap_alloc_new w3 _
  · exact grown_trans (grown_trans (World.grownBy_alloc w3 _ _) (grown_setCell _ g 0 _)) (grown_drew _ _)

end Go.Proofs.YtonokaelbpfjnabGreatDoor.Fm
