/- Texts joined: Qg1, Qg2, Qg3. -/
import Derived.Test.YtnonghacjfgnmaaJbAo
import Derived.Deep.CutRange
import Derived.Deep.DeepCutAuto
/- The document's region in memory; its small calls. -/
namespace Go.Proofs.Ytnonghacjfgnmaa
open Go.RowKit Ap
attribute [local go_sem ↓] Go.wp_at_zero Go.wp_at_succ

/-- The document's region lies at r: sectors of its device c. -/
structure QgAt (w : World) (r c F C : Nat) : Prop where
  head : w.heap[r]? = some (.cells (rgcells c F C).toArray 137 (0, 0))
section
variable {w w' : World} {r c F C lo n size : Nat} {s : Dv} {q : Rk}
theorem QgAt.lt (h : QgAt w r c F C) : r < w.heap.size := row_lt h.head
theorem QgAt.same (h : QgAt w r c F C) (hb : w'.heap[r]? = w.heap[r]?) : QgAt w' r c F C := ⟨hb.trans h.head⟩
theorem QgAt.grown (h : QgAt w r c F C) (hg : w.grownBy w' none) : QgAt w' r c F C := h.same (hg.block r h.lt (by simp))
theorem QgAt.kept {S : Nat → Prop} (h : QgAt w r c F C) (hk : Kept w w' S) (hS : ¬ S r) : QgAt w' r c F C := h.same (hk.block r h.lt hS)
theorem QgAt.c0 (h : QgAt w r c F C) : w.cell? ⟨r, 0, none⟩ = some (.pointer (some ⟨c, 0, none⟩)) := cell_row h.head 0
theorem QgAt.c1 (h : QgAt w r c F C) : w.cell? ⟨r, 1, none⟩ = some (.int .i64 (F : Int)) := cell_row h.head 1
theorem QgAt.c2 (h : QgAt w r c F C) : w.cell? ⟨r, 2, none⟩ = some (.int .i64 (C : Int)) := cell_row h.head 2
theorem RDev.drew (h : RDev w lo n size c s q) (p : Nat) : RDev (w.drewN p) lo n size c s q := h.then (grown_drewN w p none)
set_option maxRecDepth 20000 in
set_option maxHeartbeats 1000000 in
theorem qbytes_at (h : RDev w lo n size c s q) (hr : QgAt w r c F C) (hC : C ≤ 65536) : Calls Try.prog 64 #[.pointer (some ⟨r, 0, none⟩)] w fun e w' => e = .returned (.int .i64 ((C * size : Nat) : Int)) ∧ ∃ p, w' = w.drewN p := by
  have c0 := hr.c0
  have c2 := hr.c2
  have s1 := h.ref.shape.s1
  have hm : C * size ≤ 65536 * 4096 := Nat.mul_le_mul hC s1
  have hm2 : (C : Int) * (size : Int) = ((C * size : Nat) : Int) := by simp
  have hm3 : (0 : Int) ≤ (C : Int) * (size : Int) ∧ (C : Int) * (size : Int) ≤ 268435456 := by rw [hm2]; omega
  have hm4 := hm3.1
  have hm5 := hm3.2
  have H := hide (fun p => rdsize_any (h.drew p))
  clear h hr hm2 hm hm3
  go_enter Try.func64, Try.ntmps64
  go_wp2_with fail
  go_quiet ((go_at_call 65; exact Calls.quiet_of_same (H.out _)))
  go_wp2
  go_ret
  exact ⟨rfl, _, rfl⟩
set_option maxRecDepth 20000 in
set_option maxHeartbeats 2000000 in
theorem qwrong_at (h : RDev w lo n size c s q) (hr : QgAt w r c F C) (hC : C ≤ 65536) (at_ m : Int) (hat : at_ ≤ 9223372036854775807) : Calls Try.prog 87 #[.pointer (some ⟨r, 0, none⟩), .int .i64 at_, .int .i64 m] w fun e w' => e = .returned (.bool (decide (mcode (C * size) at_ m ≠ 0))) ∧ ∃ p, w' = w.drewN p := by
  have hm : C * size ≤ 65536 * 4096 := Nat.mul_le_mul hC h.ref.shape.s1
  have H := hide (fun p => qbytes_at (h.drew p) (hr.grown (grown_drewN w p none)) hC)
  clear h hr
  unfold mcode
  generalize C * size = B at *
  by_cases h1 : 0 ≤ at_
  · by_cases h2 : 0 ≤ m
    · by_cases h3 : at_ ≤ (B : Int)
      · by_cases h4 : m ≤ (B : Int) - at_
        · rw [if_pos ⟨h1, h2, h4⟩]
          go_enter Try.func87, Try.ntmps87
          go_wp2_with fail
          refine (H.out 0).mono ?_
          rintro e w' ⟨rfl, p, rfl⟩
          go_wp2_with fail
          refine (show Calls Try.prog 64 #[.pointer (some ⟨r, 0, none⟩)] ((w.drewN 0).drewN p) _ from by rw [World.drewN_drewN]; exact H.out _).mono ?_
          rintro e w' ⟨rfl, p2, rfl⟩
          go_wp2
          go_ret
          refine ⟨?_, _, rfl⟩
          show Ending.returned (.bool (decide (at_ < 0) || decide (m < 0) || decide ((B : Int) < at_) || decide ((B : Int) - at_ < m))) = _
          rw [decide_eq_false (show ¬ at_ < 0 by omega), decide_eq_false (show ¬ m < 0 by omega), decide_eq_false (show ¬ (B : Int) < at_ by omega), decide_eq_false (show ¬ (B : Int) - at_ < m by omega)]
          rfl
        · rw [if_neg (by omega)]
          go_enter Try.func87, Try.ntmps87
          go_wp2_with fail
          refine (H.out 0).mono ?_
          rintro e w' ⟨rfl, p, rfl⟩
          go_wp2_with fail
          refine (show Calls Try.prog 64 #[.pointer (some ⟨r, 0, none⟩)] ((w.drewN 0).drewN p) _ from by rw [World.drewN_drewN]; exact H.out _).mono ?_
          rintro e w' ⟨rfl, p2, rfl⟩
          go_wp2
          go_ret
          exact ⟨rfl, _, rfl⟩
      · rw [if_neg (by omega)]
        go_enter Try.func87, Try.ntmps87
        go_wp2_with fail
        refine (H.out 0).mono ?_
        rintro e w' ⟨rfl, p, rfl⟩
        go_wp2
        go_ret
        exact ⟨rfl, p, rfl⟩
    · rw [if_neg (by omega)]
      go_enter Try.func87, Try.ntmps87
      go_wp2
      go_ret
      exact ⟨rfl, 0, rfl⟩
  · rw [if_neg (by omega)]
    go_enter Try.func87, Try.ntmps87
    go_wp2
    go_ret
    exact ⟨rfl, 0, rfl⟩
set_option maxHeartbeats 400000 in
theorem qsync_at (h : RDev w lo n size c s q) (hr : QgAt w r c F C) (hV : q.V.length ≤ 900000) (hc : s.cnt < 100000) :
    Calls Try.prog 63 #[.pointer (some ⟨r, 0, none⟩)] w fun e w' => e = .returned (.int .i64 (s.code 0)) ∧ ∃ q', RDev w' lo n size c s.next q' ∧ RM w w' c q q' ∧ rst q' = (if s.goes then rsyncA size (rst q) else rst q) := by
  have H : Hid (Calls Try.prog 90 #[.pointer (some ⟨c, 0, none⟩)] w fun e w' => e = .returned (.int .i64 (s.code 0)) ∧ (fun w' => ∃ q', RDev w' lo n size c s.next q' ∧ RM w w' c q q' ∧ rst q' = (if s.goes then rsyncA size (rst q) else rst q)) w') := rdsync_any h hV hc
  have c0 := hr.c0
  clear h hr
  show Calls Try.prog 63 #[.pointer (some ⟨r, 0, none⟩)] w fun e w' => e = .returned (.int .i64 (s.code 0)) ∧ (fun w' => ∃ q', RDev w' lo n size c s.next q' ∧ RM w w' c q q' ∧ rst q' = (if s.goes then rsyncA size (rst q) else rst q)) w'
  generalize (fun w' => ∃ q', RDev w' lo n size c s.next q' ∧ RM w w' c q q' ∧ rst q' = (if s.goes then rsyncA size (rst q) else rst q)) = Z at *
  generalize s.code 0 = x at *
  go_enter Try.func63, Try.ntmps63
  go_wp2_with fail
  refine H.out.mono ?_
  rintro e w' ⟨rfl, h2⟩
  have H3 := hide h2
  clear h2
  go_wp2
  go_ret
  exact ⟨rfl, H3.out⟩
set_option maxRecDepth 20000 in
set_option maxHeartbeats 2000000 in
theorem qnew_at (h : RDev w lo n size c s q) (F C : Nat) (hok : spanOk n F C) : Calls Try.prog 58 #[.pointer (some ⟨c, 0, none⟩), .agg #[.int .i64 (F : Int), .int .i64 (C : Int)]] w fun e w' => ∃ r, e = .returned (.tuple #[.pointer (some ⟨r, 0, none⟩), .int .i64 0]) ∧ QgAt w' r c F C ∧ w.heap.size ≤ r ∧ w.grownBy w' none := by
  obtain ⟨h1, h2, h3⟩ := hok
  have n1 := h.ref.shape.n1
  have H : Hid (∀ w1 : World, w.grownBy w1 none → Calls Try.prog 86 #[.pointer (some ⟨c, 0, none⟩)] w1 fun e w' => e = .returned (.int .i64 (n : Int)) ∧ w' = w1) := fun w1 g1 => rdsectors_any (h.then g1)
  have G1 := hide (World.grownBy_alloc w (.cells #[.int .i64 (F : Int), .int .i64 (C : Int)] 25) none)
  have E := hide (span_new w F C)
  have hz := hide G1.out.size
  have h4 : (F : Int) ≤ (n : Int) := by omega
  clear h
  go_enter Try.func58, Try.ntmps58
  go_wp2_with fail
  generalize w.alloc (.cells #[.int .i64 (F : Int), .int .i64 (C : Int)] 25) = w1 at *
  have e0 := E.out.1
  have e1 := E.out.2
  generalize w.heap.size = z at *
  have HD : Hid (∀ p, Calls Try.prog 86 #[.pointer (some ⟨c, 0, none⟩)] (w1.drewN p) fun e w' => e = .returned (.int .i64 (n : Int)) ∧ w' = w1.drewN p) := fun p => H.out _ (grown_trans G1.out (grown_drewN w1 p none))
  have d1 : decide ((F : Int) < 0) = false := decide_eq_false (by omega)
  have d2 : decide ((C : Int) < 1) = false := decide_eq_false (by omega)
  have d3 : decide (n < F) = false := decide_eq_false (by omega)
  have d4 : decide ((n : Int) - (F : Int) < (C : Int)) = false := decide_eq_false (by omega)
  go_quiet ((go_at_call 86; exact Calls.quiet_of_same (HD.out _)))
  have e2 : (w1.drewN nq).cell? ⟨z, 0, none⟩ = some (.int .i64 (F : Int)) := e0
  have e3 : (w1.drewN nq).cell? ⟨z, 1, none⟩ = some (.int .i64 (C : Int)) := e1
  have G2 := hide (grown_trans G1.out (grown_drewN w1 nq none))
  generalize w1.drewN nq = w2 at *
  clear d1 d2 d3 d4
  go_wp2
  go_ret2
  have g3 := World.grownBy_alloc w2 (.cells (rgcells c F C).toArray 137) none
  exact ⟨w2.heap.size, rfl, ⟨heap_alloc_new w2 _⟩, by have := G2.out.size; have := hz.out; omega, grown_trans G2.out g3⟩
set_option maxRecDepth 20000 in
set_option maxHeartbeats 4000000 in
theorem qnew_bad (h : RDev w lo n size c s q) (F C : Int) (hF : F ≤ 9223372036854775807) (hok : ¬ spanOk n F C) : Calls Try.prog 58 #[.pointer (some ⟨c, 0, none⟩), .agg #[.int .i64 F, .int .i64 C]] w fun e w' => e = .returned (.tuple #[.pointer none, .int .i64 2]) ∧ w.grownBy w' none := by
  unfold spanOk at hok
  have n1 := h.ref.shape.n1
  have H : Hid (∀ w1 : World, w.grownBy w1 none → Calls Try.prog 86 #[.pointer (some ⟨c, 0, none⟩)] w1 fun e w' => e = .returned (.int .i64 (n : Int)) ∧ w' = w1) := fun w1 g1 => rdsectors_any (h.then g1)
  have G1 := hide (World.grownBy_alloc w (.cells #[.int .i64 F, .int .i64 C] 25) none)
  have E := hide (span_new w F C)
  clear h
  have hcase : F < 0 ∨ (0 ≤ F ∧ C < 1) ∨ (0 ≤ F ∧ 1 ≤ C ∧ (n : Int) < F) ∨ (0 ≤ F ∧ 1 ≤ C ∧ F ≤ (n : Int) ∧ (n : Int) - F < C) := by omega
  go_enter Try.func58, Try.ntmps58
  go_wp2_with fail
  generalize w.alloc (.cells #[.int .i64 F, .int .i64 C] 25) = w1 at *
  have e0 := E.out.1
  have e1 := E.out.2
  generalize w.heap.size = z at *
  have HD : Hid (∀ p, Calls Try.prog 86 #[.pointer (some ⟨c, 0, none⟩)] (w1.drewN p) fun e w' => e = .returned (.int .i64 (n : Int)) ∧ w' = w1.drewN p) := fun p => H.out _ (grown_trans G1.out (grown_drewN w1 p none))
  rcases hcase with k1 | ⟨k1, k2⟩ | ⟨k1, k2, k3⟩ | ⟨k1, k2, k3, k4⟩
  all_goals
    try (have d1 : decide (F < 0) = true := decide_eq_true (by omega))
    try (have d1 : decide (F < 0) = false := decide_eq_false (by omega))
    try (have d2 : decide (C < 1) = true := decide_eq_true (by omega))
    try (have d2 : decide (C < 1) = false := decide_eq_false (by omega))
    try (have d3 : decide ((n : Int) < F) = true := decide_eq_true (by omega))
    try (have d3 : decide ((n : Int) < F) = false := decide_eq_false (by omega))
    try (have d4 : decide ((n : Int) - F < C) = true := decide_eq_true (by omega))
    go_quiet ((go_at_call 86; exact Calls.quiet_of_same (HD.out _)))
    have G2 := hide (grown_trans G1.out (grown_drewN w1 nq none))
    generalize w1.drewN nq = w2 at *
    go_wp2
    go_ret2
    exact ⟨rfl, G2.out⟩
end
end Go.Proofs.Ytnonghacjfgnmaa
/- The document's region: which sectors are meant. -/
namespace Go.Proofs.Ytnonghacjfgnmaa
open Go.RowKit Ap

/-- How many pieces lie ahead of sector t. -/
def pcs0 (size at_ m t : Nat) : Nat := min (t - at_ / size) (pcn size at_ m)
theorem doc_skip {size at_ m t : Nat} (hs : 0 < size) (h : t < at_ / size ∨ at_ / size + pcn size at_ m ≤ t) :
    min ((at_ : Int) + (m : Int) - ((t * size : Nat) : Int)) (size : Int) ≤ max ((at_ : Int) - ((t * size : Nat) : Int)) 0 ∧ pcs0 size at_ m (t + 1) = pcs0 size at_ m t := by
  have hd := Nat.div_mul_le_self at_ size
  refine ⟨?_, by unfold pcs0; omega⟩
  rcases h with h | h
  · have h1 : (t + 1) * size ≤ at_ / size * size := Nat.mul_le_mul_right _ h
    rw [Nat.succ_mul] at h1
    omega
  · by_cases hm : m = 0
    · subst hm; omega
    · have h1 := pc_last (size := size) (at_ := at_) (n := m) hs
      have h2 : (at_ / size + pcn size at_ m) * size ≤ t * size := Nat.mul_le_mul_right _ h
      omega
theorem doc_piece {size at_ m t : Nat} (hs : 0 < size) (hm : at_ + m ≤ 268435456) (h1 : at_ / size ≤ t) (h2 : t < at_ / size + pcn size at_ m) :
    ∃ j S d fr te, PcN size at_ m j S d fr te ∧ S = t ∧ j < pcn size at_ m ∧ pcs0 size at_ m t = j ∧ pcs0 size at_ m (t + 1) = j + 1 ∧
      max ((at_ : Int) - ((t * size : Nat) : Int)) 0 = (fr : Int) ∧ min ((at_ : Int) + (m : Int) - ((t * size : Nat) : Int)) (size : Int) = (te : Int) := by
  obtain ⟨j, rfl⟩ : ∃ j, t = at_ / size + j := ⟨t - at_ / size, by omega⟩
  have hj : j < pcn size at_ m := by omega
  obtain ⟨S, d, fr, te, N⟩ := pc_nums hs hm hj
  obtain ⟨p1, p2, p3, p4⟩ := pc_facts hs hj
  refine ⟨j, S, d, fr, te, N, N.eS.symm, hj, by unfold pcs0; omega, by unfold pcs0; omega, ?_, ?_⟩
  · rw [← N.ef]; omega
  · rw [← N.et]; omega
theorem doc_end {size at_ m C : Nat} (hs : 0 < size) (hfit : at_ + m ≤ C * size) : pcs0 size at_ m C = pcn size at_ m := by
  unfold pcs0
  by_cases h0 : pcn size at_ m = 0
  · omega
  · have h1 := (pcn_iff (at_ := at_) (n := m) hs (pcn size at_ m - 1)).1 (by omega)
    have h2 := (pc_facts (at_ := at_) (n := m) hs (show pcn size at_ m - 1 < pcn size at_ m by omega)).2.2.2
    have h3 : at_ / size + (pcn size at_ m - 1) < C := by
      apply Nat.lt_of_mul_lt_mul_right (a := size)
      omega
    omega
end Go.Proofs.Ytnonghacjfgnmaa
/- The document's region: its read. -/
namespace Go.Proofs.Ytnonghacjfgnmaa
open Go.RowKit Ap
attribute [local go_sem ↓] Go.wp_at_zero Go.wp_at_succ

section
variable {w w' : World} {r c F C lo n size : Nat} {s : Dv} {q : Rk}
/-- Bytes that the document's device has told, and their room. -/
def RGives2 (w' : World) (size : Nat) (v : Value) (xs : List Nat) : Prop := (v = .slice none 0 0 ∧ xs = []) ∨ ∃ g cc, v = .slice (some ⟨g, 0, none⟩) size cc ∧ At w' (some ⟨g, 0, none⟩) xs ∧ xs.length = size ∧ size ≤ cc
theorem rrd_disk2 (h : RefAt w lo n size q) (hV : q.V.length ≤ 900000) (a : Int) : Calls Try.prog 124 #[.pointer (some ⟨q.r, 0, none⟩), .int .i64 a] w fun e w' =>
    ∃ v, e = .returned (.tuple #[v, .int .i64 (rcode n a)]) ∧ RGives2 w' size v (rrbytes n (rst q) a) ∧ w.grownBy w' none := by
  by_cases ha : 0 ≤ a ∧ a < (n : Int)
  · obtain ⟨i, rfl⟩ := Int.eq_ofNat_of_zero_le ha.1
    have hi : i < n := by omega
    refine (rread_any rfl h (by omega) i hi).mono ?_
    rintro e w' ⟨g, cc, rfl, h1, h2⟩
    refine ⟨_, by rw [rcode, if_pos ha], ?_, h2⟩
    rw [rrbytes, if_pos ha, Int.toNat_natCast]
    exact Or.inr ⟨g, cc, rfl, h1.at_, finds_len h i hi, by obtain ⟨ao, cap, e, _, h3, _⟩ := own_form h1; cases e; have h4 := finds_len h i hi; simp only at h3; omega⟩
  · refine (rread_bad rfl h a (by omega)).mono ?_
    rintro e w' ⟨rfl, rfl⟩
    refine ⟨_, by rw [rcode, if_neg ha], ?_, grown_refl _ _⟩
    rw [rrbytes, if_neg ha]
    exact Or.inl ⟨rfl, rfl⟩
set_option maxHeartbeats 1000000 in
theorem rdread_any2 (h : RDev w lo n size c s q) (hV : q.V.length ≤ 900000) (hc : s.cnt < 100000) (a : Int) :
    Calls Try.prog 88 #[.pointer (some ⟨c, 0, none⟩), .int .i64 a] w fun e w' => ∃ v, e = .returned (.tuple #[v, .int .i64 (s.code (rcode n a))]) ∧ RGives2 w' size v (if s.goes then rrbytes n (rst q) a else []) ∧ RDev w' lo n size c s.next q ∧ RM w w' c q q := by
  have H := hide (rmade_any h.dev hc)
  have HH := hide (And.intro h hV)
  unfold Dv.code
  clear h hV hc
  obtain ⟨g, hgo⟩ : ∃ g, g = s.goes := ⟨_, rfl⟩
  rw [← hgo] at H ⊢
  clear hgo
  generalize s.next = t at *
  cases g with
  | false =>
    go_enter Try.func88, Try.ntmps88
    go_wp2_with fail
    refine H.out.mono ?_
    rintro e w' ⟨rfl, h1, h2⟩
    have H2 := hide (And.intro h1 h2)
    clear h1 h2
    go_wp2
    go_ret2
    exact ⟨_, rfl, Or.inl ⟨rfl, rfl⟩, HH.out.1.rset H2.out.2 H2.out.1, RM.row H2.out.2⟩
  | true =>
    simp only [if_true]
    go_enter Try.func88, Try.ntmps88
    go_wp2_with fail
    refine H.out.mono ?_
    rintro e w' ⟨rfl, h1, h2⟩
    have H2 := hide (And.intro h1 h2)
    have c0 := h1.c0
    clear h1 h2
    go_wp2_with fail
    have hd2 := HH.out.1.rset H2.out.2 H2.out.1
    refine (rrd_disk2 hd2.ref HH.out.2 a).mono ?_
    rintro e w2 ⟨v, rfl, g1, g2⟩
    have H3 := hide (And.intro g1 (And.intro (hd2.then g2) ((RM.row (q := q) H2.out.2).new g2)))
    clear g1 g2 hd2
    go_wp2
    go_ret2
    exact ⟨v, rfl, H3.out.1, H3.out.2.1, H3.out.2.2⟩
theorem rdread_go (h : RDev w lo n size c s q) (hV : q.V.length ≤ 900000) (hc : s.cnt < 100000) (hgo : s.goes = true) (i : Nat) (hi : i < n) (X : List Nat) (hX : rrbytes n (rst q) (i : Int) = X) (hl : X.length = size) :
    Calls Try.prog 88 #[.pointer (some ⟨c, 0, none⟩), .int .i64 (i : Int)] w fun e w' => ∃ g cc : Nat, e = .returned (.tuple #[.slice (some ⟨g, 0, none⟩) size cc, .int .i64 0]) ∧ (size ≤ cc ∧ At w' (some ⟨g, 0, none⟩) X ∧ RDev w' lo n size c s.next q ∧ RM w w' c q q) := by
  have s0 := h.ref.shape.s0
  have hi2 : (0 : Int) ≤ (i : Int) ∧ (i : Int) < (n : Int) := by omega
  refine (rdread_any2 h hV hc (i : Int)).mono ?_
  rintro e w' ⟨v, rfl, h1, h2, h3⟩
  rw [if_pos hgo, hX] at h1
  rcases h1 with ⟨_, h1⟩ | ⟨g, cc, rfl, g1, g2, g3⟩
  · rw [h1] at hl; simp at hl; omega
  · exact ⟨g, cc, by rw [Dv.code, if_pos hgo, rcode, if_pos hi2], g3, g1, h2, h3⟩
theorem rdread_no (h : RDev w lo n size c s q) (hV : q.V.length ≤ 900000) (hc : s.cnt < 100000) (hgo : s.goes = false) (i : Int) :
    Calls Try.prog 88 #[.pointer (some ⟨c, 0, none⟩), .int .i64 i] w fun e w' => e = .returned (.tuple #[.slice none 0 0, .int .i64 60]) ∧ (RDev w' lo n size c s.next q ∧ RM w w' c q q) := by
  have s0 := h.ref.shape.s0
  refine (rdread_any2 h hV hc i).mono ?_
  rintro e w' ⟨v, rfl, h1, h2, h3⟩
  rw [hgo] at h1
  rcases h1 with ⟨rfl, _⟩ | ⟨g, cc, rfl, g1, g2, g3⟩
  · exact ⟨by rw [Dv.code, hgo]; rfl, h2, h3⟩
  · simp at g2; omega
/-- What stands behind the sectors ahead of t. -/
structure QrS (w w' : World) (lo n size c : Nat) (s sj : Dv) (q : Rk) (r F C at_ m t : Nat) (A : List Nat) (v : Value) : Prop where
  dev : RDev w' lo n size c sj q
  rg : QgAt w' r c F C
  mv : RM w w' c q q
  go : rgo (pcn size at_ m) s = rgo (pcn size at_ m - pcs0 size at_ m t) sj
  few : sj.cnt ≤ s.cnt + pcs0 size at_ m t
  out : w'.ownsRow w.heap.size 5 1 v (min m ((at_ / size + pcs0 size at_ m t) * size - at_)) (bv ((bytesAt A (F * size + at_) m).take (min m ((at_ / size + pcs0 size at_ m t) * size - at_))))
theorem QrS.then {w2 : World} {sj : Dv} {at_ m t : Nat} {A : List Nat} {v : Value} (h : QrS w w' lo n size c s sj q r F C at_ m t A v) (hg : w'.grownBy w2 none) : QrS w w2 lo n size c s sj q r F C at_ m t A v :=
  ⟨h.dev.then hg, h.rg.grown hg, h.mv.new hg, h.go, h.few, ⟨h.out.1, h.out.2.imp id (fun ⟨g, cap, cur, e1, e2, e3, e4⟩ => ⟨g, cap, cur, e1, e2, (hg.block g (row_lt e3) (by simp)).trans e3, e4⟩)⟩⟩
/-- What is read so far, and the next piece. -/
theorem read_more {size at_ m j S d fr te F n : Nat} {A : List Nat} (hN : PcN size at_ m j S d fr te) (hs : 0 < size) (hA : A.length = n * size) (hfit : F * size + at_ + m ≤ n * size) (hj : j < pcn size at_ m) :
    (bytesAt A (F * size + at_) m).take d ++ ((secOf size A (F + S)).drop fr).take (te - fr) = (bytesAt A (F * size + at_) m).take (min m ((at_ / size + (j + 1)) * size - at_)) := by
  obtain ⟨h1, h2, h3, h4⟩ := pc_facts hs hj
  have hlt : F + S < n := by
    apply Nat.lt_of_mul_lt_mul_right (a := size)
    rw [Nat.add_mul, ← hN.eS]
    omega
  have hsl := secOf_length hA hlt
  have hbl : (bytesAt A (F * size + at_) m).length = m := bytesAt_length (by omega)
  have e : (F + S) * size = F * size + S * size := Nat.add_mul _ _ _
  rw [← hN.nx]
  have k1 := hN.ed
  have k2 := hN.ef
  have k3 := hN.et
  have k4 := hN.f1
  have k5 := hN.t1
  have k6 := hN.d1
  rw [hN.eS] at k1 k2 k3 h3 h4
  have l1 : ((bytesAt A (F * size + at_) m).take d).length = d := by simp [hbl]; omega
  apply List.ext_getElem?
  intro i
  by_cases hy : i < d
  · rw [List.getElem?_append_left (by omega), List.getElem?_take, List.getElem?_take, if_pos hy, if_pos (by omega)]
  · rw [List.getElem?_append_right (by omega), l1, List.getElem?_take, List.getElem?_take, List.getElem?_drop, secOf_get, bytesAt_get, e]
    generalize S * size = Q at *
    by_cases hx : i < d + (te - fr)
    · rw [if_pos (by omega), if_pos (by omega), if_pos hx, if_pos (by omega)]
      congr 1; omega
    · rw [if_neg (by omega), if_neg hx]
set_option maxRecDepth 20000 in
set_option maxHeartbeats 16000000 in
theorem qRead_at (h : RDev w lo n size c s q) (hr : QgAt w r c F C) (hV : q.V.length ≤ 900000) (hFC : F + C ≤ n) (at_ m : Nat) (hfit : at_ + m ≤ C * size) (hcnt : s.cnt + pcn size at_ m ≤ 100000) (A : List Nat) (hA : A.length = n * size) (hsec : ∀ i, i < n → rrbytes n (rst q) (i : Int) = secOf size A i) :
    Calls Try.prog 61 #[.pointer (some ⟨r, 0, none⟩), .int .i64 (at_ : Int), .int .i64 (m : Int)] w fun e w' => ∃ (v : Value) (x : Int), e = .returned (.tuple #[v, .int .i64 x]) ∧ (x = (rgo (pcn size at_ m) s).1 ∧ RDev w' lo n size c (rgo (pcn size at_ m) s).2 q ∧ RM w w' c q q ∧ QgAt w' r c F C ∧ (x = 0 → w'.ownsRow w.heap.size 5 1 v m (bv (bytesAt A (F * size + at_) m))) ∧ (x ≠ 0 → v = .slice none 0 0)) := by
  have s0 := h.ref.shape.s0
  have s1 := h.ref.shape.s1
  have n1 := h.ref.shape.n1
  have hB := h.ref.shape.all
  have hall : C * size ≤ n * size := Nat.mul_le_mul_right _ (by omega)
  have e0 : mcode (C * size) at_ m = 0 := by unfold mcode; rw [if_pos (by omega)]
  have HWR : Hid (Calls Try.prog 87 #[.pointer (some ⟨r, 0, none⟩), .int .i64 (at_ : Int), .int .i64 (m : Int)] w fun e w' => e = .returned (.bool false) ∧ w.grownBy w' none) := by
    have := qwrong_at h hr (by omega) at_ m (by omega)
    rw [e0] at this
    exact this.mono (by rintro e w' ⟨rfl, p, rfl⟩; exact ⟨rfl, grown_drewN _ _ _⟩)
  have HS := hide (fun w1 (g : w.grownBy w1 none) => rdsize_any (h.then g))
  have HH := hide (And.intro h (And.intro hr (And.intro hA hsec)))
  clear h hr e0 hA hsec
  go_enter Try.func61, Try.ntmps61
  go_wp2_with fail
  refine HWR.out.mono ?_
  rintro e w1 ⟨rfl, g1⟩
  have G1 := hide g1
  have c0 := (HH.out.2.1.grown g1).c0
  clear g1
  go_wp2_with fail
  refine (HS.out _ G1.out).mono ?_
  rintro e w' ⟨rfl, rfl⟩
  have hz0 : (at_ / size + pcs0 size at_ m 0) * size - at_ = 0 := by
    have : pcs0 size at_ m 0 = 0 := by simp [pcs0]
    rw [this, Nat.add_zero]
    have := Nat.div_mul_le_self at_ size
    omega
  have Q0 : Hid (QrS w w' lo n size c s s q r F C at_ m 0 A (.slice none 0 0)) := by
    refine ⟨HH.out.1.then G1.out, HH.out.2.1.grown G1.out, (RM.refl w c q).new G1.out, ?_, by omega, ?_⟩
    · have : pcs0 size at_ m 0 = 0 := by simp [pcs0]
      rw [this, Nat.sub_zero]
    · rw [hz0, Nat.min_zero, List.take_zero]
      exact World.ownsRow_nil _ _ _ _
  clear hz0 c0
  go_wp2
  go_loopg [8, 10] C (fun k v i wr => ∃ t : Nat, k + t = C ∧ i = .int .i64 t ∧ Hid (∃ sj, QrS w wr lo n size c s sj q r F C at_ m t A v))
  case atStart => exact ⟨0, by omega, rfl, hide ⟨s, Q0.out⟩⟩
  case round =>
    clear Q0
    obtain ⟨t, hkt, rfl, HR⟩ := hrel
    obtain ⟨sj, hj⟩ := HR.out
    have HJ := hide hj
    have r0 := hj.rg.c0
    have r1 := hj.rg.c1
    have r2 := hj.rg.c2
    clear hj HR
    by_cases hk : 0 < gk
    · have ht : (t : Int) < (C : Int) := by omega
      have htm : (t + 1) * size ≤ C * size := Nat.mul_le_mul_right _ (by omega)
      rw [Nat.succ_mul] at htm
      obtain ⟨T, hT⟩ : ∃ T, T = t * size := ⟨_, rfl⟩
      have hmul : (t : Int) * (size : Int) = (T : Int) := by rw [hT]; simp
      have hTb : T ≤ 67108864 := by omega
      have HT := hide hT
      clear hT
      obtain ⟨X, hX⟩ : ∃ X : Int, max ((at_ : Int) - (T : Int)) 0 = X := ⟨_, rfl⟩
      obtain ⟨Y, hY⟩ : ∃ Y : Int, min ((at_ : Int) + (m : Int) - (T : Int)) (size : Int) = Y := ⟨_, rfl⟩
      have HXY := hide (And.intro hX hY)
      clear hX hY
      go_upto_region 8 with fail
      go_cut [11, 12] from 33 to 47 (fun s11 s12 wx => s11 = .int .i64 X ∧ s12 = .int .i64 Y ∧ wx = wr)
      case first =>
        go_wp2_with fail
        all_goals
          go_meet
          have hh := HXY.out
          refine ⟨?_, ?_, rfl⟩ <;> congr 1 <;> omega
      case rest =>
      obtain ⟨rfl, rfl, rfl⟩ := hcut
      by_cases hsk : t < at_ / size ∨ at_ / size + pcn size at_ m ≤ t
      · obtain ⟨d1, d2⟩ := doc_skip (m := m) (by omega) hsk
        rw [← HT.out] at d1
        have HN : Hid (∃ sj, QrS w wc lo n size c s sj q r F C at_ m (t + 1) A u8) := by
          obtain ⟨a1, a2, a3, a4, a5, a6⟩ := HJ.out
          exact ⟨sj, a1, a2, a3, by rw [d2]; exact a4, by rw [d2]; exact a5, by rw [d2]; exact a6⟩
        have hYX : Y ≤ X := by have := HXY.out; omega
        have hYX2 : decide (Y ≤ X) = true := decide_eq_true hYX
        clear d1 d2 hsk htm HT HXY
        go_wp2
        go_roundg (gk - 1)
        case measure => omega
        case rel => exact ⟨t + 1, by omega, by go_num, HN⟩
      · have hsk2 : at_ / size ≤ t ∧ t < at_ / size + pcn size at_ m := by omega
        obtain ⟨j, S, d, fr, te, N, rfl, hjm, hp1, hp2, hmx, hmn⟩ := doc_piece (m := m) (by omega) (by omega) hsk2.1 hsk2.2
        rw [← HT.out] at hmx hmn
        obtain ⟨rfl, rfl⟩ : X = (fr : Int) ∧ Y = (te : Int) := ⟨HXY.out.1.symm.trans hmx, HXY.out.2.symm.trans hmn⟩
        have hSn : F + S < n := by omega
        have hsl : (secOf size A (F + S)).length = size := secOf_length HH.out.2.2.1 hSn
        have hft := N.f1
        have hts := N.t1
        have hnl : (fr : Int) < (te : Int) := by omega
        have hnl2 : ¬ (te : Int) ≤ (fr : Int) := by omega
        have hFS : (F : Int) + (S : Int) = ((F + S : Nat) : Int) := by simp
        have hwF : IntKind.i64.wrap ((F : Int) + (S : Int)) = (F : Int) + (S : Int) := IntWalk.i64_in _ (by omega)
        have HN := hide N
        clear hsk htm HT HXY hmx hmn N
        have HRC : Hid (∀ (w2 w3 : World), wc.grownBy w2 none → RM w2 w3 c q q → QgAt w3 r c F C) := by
          intro w2 w3 hg2 q2
          have hq := HJ.out.rg.grown hg2
          refine hq.kept q2.kept ?_
          rintro (e | e)
          · exact (HJ.out.dev.then hg2).ref.other_off hq.head (by decide) (by decide) (by decide) (by decide) e
          · have h1 := (HJ.out.dev.then hg2).dev.head
            have e : r = c := e
            rw [← e, hq.head] at h1
            simp at h1
        have hS0 := And.intro r0 r1
        cases hgo : sj.goes with
        | false =>
          have HX : Hid (∀ w2 : World, wc.grownBy w2 none → Calls Try.prog 88 #[.pointer (some ⟨c, 0, none⟩), .int .i64 ((F : Int) + (S : Int))] w2 fun e w' => e = .returned (.tuple #[.slice none 0 0, .int .i64 60]) ∧
              ((RDev w' lo n size c sj.next q ∧ RM w w' c q q) ∧ QgAt w' r c F C)) := by
            intro w2 hg2
            refine (rdread_no (HJ.out.dev.then hg2) hV (by have := HJ.out.few; omega) hgo _).mono ?_
            rintro e w3 ⟨rfl, q1, q2⟩
            exact ⟨rfl, ⟨q1, (HJ.out.mv.new hg2).trans q2⟩, HRC.out _ _ hg2 q2⟩
          have hgo2 : Hid (rgo (pcn size at_ m) s = (60, sj.next)) := by
            obtain ⟨p, hp⟩ : ∃ p, pcn size at_ m - pcs0 size at_ m S = p + 1 := ⟨pcn size at_ m - pcs0 size at_ m S - 1, by omega⟩
            show _ = _
            rw [HJ.out.go, hp, rgo, hgo]
            rfl
          clear hFS
          go_wp2_with fail
          go_region_held3 (fun w' => w'.cell? ⟨r, 0, none⟩ = some (.pointer (some ⟨c, 0, none⟩)) ∧ w'.cell? ⟨r, 1, none⟩ = some (.int .i64 (F : Int))) (first | assumption | go_keep) (first
            | (go_at_call 88; refine (HX.out _ (grown_drew _ _)).mono ?_; rintro e w2 ⟨rfl, hq⟩; have H2 := hide hq; clear hq; have hS2 : w2.cell? ⟨r, 0, none⟩ = some (.pointer (some ⟨c, 0, none⟩)) ∧ w2.cell? ⟨r, 1, none⟩ = some (.int .i64 (F : Int)) := ⟨H2.out.2.c0, H2.out.2.c1⟩))
          rename_i hHeld
          clear hHeld hS2
          go_wp2
          go_ret2
          exact ⟨_, _, rfl, by rw [hgo2.out], by rw [hgo2.out]; exact H2.out.1.1, H2.out.1.2, H2.out.2, fun h => by omega, fun _ => rfl⟩
        | true =>
          have HX : Hid (∀ w2 : World, wc.grownBy w2 none → Calls Try.prog 88 #[.pointer (some ⟨c, 0, none⟩), .int .i64 ((F : Int) + (S : Int))] w2 fun e w' => ∃ g cc : Nat, e = .returned (.tuple #[.slice (some ⟨g, 0, none⟩) size cc, .int .i64 0]) ∧
              ((size ≤ cc ∧ At w' (some ⟨g, 0, none⟩) (secOf size A (F + S)) ∧ RDev w' lo n size c sj.next q ∧ RM w w' c q q ∧ RM wc w' c q q) ∧ QgAt w' r c F C)) := by
            intro w2 hg2
            rw [hFS]
            refine (rdread_go (HJ.out.dev.then hg2) hV (by have := HJ.out.few; omega) hgo (F + S) hSn _ (HH.out.2.2.2 (F + S) hSn) hsl).mono ?_
            rintro e w3 ⟨g, cc, rfl, q0, q1, q2, q3⟩
            exact ⟨g, cc, rfl, ⟨q0, q1, q2, (HJ.out.mv.new hg2).trans q3, RM.pre hg2 q3⟩, HRC.out _ _ hg2 q3⟩
          clear hFS
          go_wp2_with fail
          go_region_held3 (fun w' => w'.cell? ⟨r, 0, none⟩ = some (.pointer (some ⟨c, 0, none⟩)) ∧ w'.cell? ⟨r, 1, none⟩ = some (.int .i64 (F : Int))) (first | assumption | go_keep) (first
            | (go_at_call 88; refine (HX.out _ (grown_drew _ _)).mono ?_; rintro e w2 ⟨g, cc, rfl, hq⟩; have H2 := hide hq; clear hq; have hS2 : w2.cell? ⟨r, 0, none⟩ = some (.pointer (some ⟨c, 0, none⟩)) ∧ w2.cell? ⟨r, 1, none⟩ = some (.int .i64 (F : Int)) := ⟨H2.out.2.c0, H2.out.2.c1⟩))
          rename_i hHeld
          clear hHeld hS2
          have hsl2 := slice_lh g size cc fr te hft (by have := H2.out.1.1; omega)
          have hdm : Hid (min m ((at_ / size + pcs0 size at_ m S) * size - at_) = d) := by
            show _ = _
            rw [hp1, HN.out.ed]; exact HN.out.d2
          obtain ⟨ov, hov⟩ : ∃ ov, ov = u8 := ⟨_, rfl⟩
          have hlt1 : Hid ((∀ i, rfoot q i → i < w.heap.size) ∧ c < w.heap.size ∧ r < w.heap.size) := ⟨fun i hi => (HH.out.1.ref.lt i hi).2, HH.out.1.dev.lt, HH.out.2.1.lt⟩
          have hout : w2.ownsRow w.heap.size 5 1 u8 d (bv ((bytesAt A (F * size + at_) m).take d)) := by
            have h0 := HJ.out.out
            rw [hdm.out] at h0
            refine ⟨h0.1, h0.2.imp id (fun ⟨g', cap, cur, e1, e2, e3, e4⟩ => ⟨g', cap, cur, e1, e2, (H2.out.1.2.2.2.2.kept.block g' (row_lt e3) ?_).trans e3, e4⟩)⟩
            rintro (e | e)
            · have := hlt1.out.1 _ e; omega
            · have := hlt1.out.2.1; have e : g' = c := e; omega
          obtain ⟨oo, oc, hof, _⟩ := own_form hout
          have HO := hide hout
          subst hof
          clear hout hov
          have hd1 := HN.out.d1
          have hB9 : d + (te - fr) ≤ 140737488355328 := by omega
          have hw2 : w.heap.size ≤ w2.heap.size := H2.out.1.2.2.2.1.kept.size
          go_wp2_with (at_builtin; refine wpList_append_at rfl (.tmp 69) (.tmp 73) rfl w.heap.size (.slice oo d oc) d ((bytesAt A (F * size + at_) m).take d) rfl HO.out (some ⟨g, fr, none⟩) (te - fr) (cc - fr) (((secOf size A (F + S)).drop fr).take (te - fr)) rfl ?_ ?_ ?_ hB9 hw2 ?_)
          · simp only [List.length_take, List.length_drop, hsl]; omega
          · have h0 := (at_from H2.out.1.2.1 fr).take (te - fr)
            rw [Addr.add_lit, Nat.zero_add] at h0
            exact h0
          · exact fun e => by cases e
          · intro v' w4 ho4 hg4
            have hk4 : Kept w2 w4 (fun i => w.heap.size ≤ i) := Kept.of hg4 (fun j e _ => (HO.out.lt j e).1)
            have hdev4 : RDev w4 lo n size c sj.next q := ⟨H2.out.1.2.2.1.ref.kept hk4 (fun i hi e => by have := hlt1.out.1 i hi; have e : w.heap.size ≤ i := e; omega), H2.out.1.2.2.1.dev.kept hk4 (fun e => by have := hlt1.out.2.1; have e : w.heap.size ≤ c := e; omega), H2.out.1.2.2.1.low⟩
            have hrg4 : QgAt w4 r c F C := H2.out.2.kept hk4 (fun e => by have := hlt1.out.2.2; have e : w.heap.size ≤ r := e; omega)
            have hmv4 : RM w w4 c q q := ⟨H2.out.1.2.2.2.1.r, H2.out.1.2.2.2.1.rf, H2.out.1.2.2.2.1.kept.trans hk4 (fun i hi e => by have e : w.heap.size ≤ i := e; omega)⟩
            have hfitA : F * size + at_ + m ≤ n * size := by
              have : (F + C) * size ≤ n * size := Nat.mul_le_mul_right _ hFC
              rw [Nat.add_mul] at this
              omega
            have hmore := read_more (A := A) (F := F) (n := n) HN.out (by omega) HH.out.2.2.1 hfitA hjm
            have hQ : QrS w w4 lo n size c s sj.next q r F C at_ m (S + 1) A v' := by
              refine ⟨hdev4, hrg4, hmv4, ?_, ?_, ?_⟩
              · obtain ⟨p, hp⟩ : ∃ p, pcn size at_ m - pcs0 size at_ m S = p + 1 := ⟨pcn size at_ m - pcs0 size at_ m S - 1, by omega⟩
                rw [HJ.out.go, hp, rgo, hgo, hp2, show pcn size at_ m - (j + 1) = p by omega]
                rfl
              · have h1 := HJ.out.few
                have h2 := Dv.next_le sj
                omega
              · rw [hp2, ← HN.out.nx]
                have h0 := ho4
                rw [hmore, ← HN.out.nx] at h0
                exact h0
            have HQ := hide hQ
            obtain ⟨vo, vc, hvf, _⟩ := own_form ho4
            subst hvf
            clear hk4 hdev4 hrg4 hmv4 hmore hQ ho4 hg4 H2 HO hS0
            go_wp2
            go_roundg (gk - 1)
            case measure => omega
            case rel => exact ⟨S + 1, by omega, by go_num, hide ⟨_, HQ.out⟩⟩
    · have htC : t = C := by omega
      subst htC
      have he := doc_end (m := m) (show 0 < size by omega) hfit
      obtain ⟨a1, a2, a3, a4, a5, a6⟩ := HJ.out
      rw [he, Nat.sub_self] at a4
      rw [he, Nat.min_eq_left (pc_last (by omega)), List.take_of_length_le (by rw [bytesAt_length (by rw [HH.out.2.2.1]; have : (F + t) * size ≤ n * size := Nat.mul_le_mul_right _ hFC; rw [Nat.add_mul] at this; omega)]; exact Nat.le_refl _)] at a6
      obtain ⟨ao, cap, hv, _⟩ := own_form a6
      have H6 : Hid (RDev wr lo n size c (rgo (pcn size at_ m) s).2 q ∧ RM w wr c q q ∧ QgAt wr r c F t ∧ wr.ownsRow w.heap.size 5 1 u8 m (bv (bytesAt A (F * size + at_) m)) ∧ (rgo (pcn size at_ m) s).1 = 0) := ⟨by rw [a4]; exact a1, a3, a2, a6, by rw [a4]; rfl⟩
      subst hv
      clear a1 a2 a3 a4 a5 a6 HJ
      go_wp2
      go_ret2
      exact ⟨_, _, rfl, H6.out.2.2.2.2.symm, H6.out.1, H6.out.2.1, H6.out.2.2.1, fun _ => H6.out.2.2.2.1, fun h => absurd rfl h⟩
end
end Go.Proofs.Ytnonghacjfgnmaa
