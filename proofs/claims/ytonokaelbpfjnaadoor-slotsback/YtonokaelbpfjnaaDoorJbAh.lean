/- Texts joined: Rg1, Rg2, Rg3, Rg4. -/
import Derived.Test.YtonokaelbpfjnaaDoorJbAg
/- A region of package region in memory; its small calls. -/
namespace Go.Proofs.YtonokaelbpfjnaaDoor
open Go.RowKit Ap
attribute [local go_sem ↓] Go.wp_at_zero Go.wp_at_succ

def rgcells (b : Nat) (F C : Int) : List Value := [.pointer (some ⟨b, 0, none⟩), .int .i64 F, .int .i64 C]
/-- A region lies at r: sectors of the device b. -/
structure RgAt (w : World) (r b F C : Nat) : Prop where
  head : w.heap[r]? = some (.cells (rgcells b F C).toArray 58 (0, 0))
section
variable {w w' : World} {r b F C : Nat}
theorem RgAt.lt (h : RgAt w r b F C) : r < w.heap.size := row_lt h.head
theorem RgAt.same (h : RgAt w r b F C) (hb : w'.heap[r]? = w.heap[r]?) : RgAt w' r b F C := ⟨hb.trans h.head⟩
theorem RgAt.grown (h : RgAt w r b F C) (hg : w.grownBy w' none) : RgAt w' r b F C := h.same (hg.block r h.lt (by simp))
theorem RgAt.kept {S : Nat → Prop} (h : RgAt w r b F C) (hk : Kept w w' S) (hS : ¬ S r) : RgAt w' r b F C := h.same (hk.block r h.lt hS)
theorem RgAt.c0 (h : RgAt w r b F C) : w.cell? ⟨r, 0, none⟩ = some (.pointer (some ⟨b, 0, none⟩)) := cell_row h.head 0
theorem RgAt.c1 (h : RgAt w r b F C) : w.cell? ⟨r, 1, none⟩ = some (.int .i64 (F : Int)) := cell_row h.head 1
theorem RgAt.c2 (h : RgAt w r b F C) : w.cell? ⟨r, 2, none⟩ = some (.int .i64 (C : Int)) := cell_row h.head 2
set_option maxHeartbeats 400000 in
theorem gnone_at (h : RgAt w r b F C) : Calls Tryd.prog 53 #[.pointer (some ⟨r, 0, none⟩)] w fun e w' => e = .returned (.bool false) ∧ w' = w := by
  have c0 := h.c0
  clear h
  go_enter Tryd.func53, Tryd.ntmps53
  go_wp2
  go_ret
  exact ⟨rfl, rfl⟩
/-- No region: nil, or one of no device. -/
def NoRegion (w : World) (p : Option Addr) : Prop := p = none ∨ ∃ a, p = some a ∧ w.cell? a = some (.pointer none)
set_option maxHeartbeats 400000 in
theorem gnone_no (p : Option Addr) (w : World) (h : NoRegion w p) : Calls Tryd.prog 53 #[.pointer p] w fun e w' => e = .returned (.bool true) ∧ w' = w := by
  rcases h with rfl | ⟨⟨r, o, q⟩, rfl, c0⟩
  · go_enter Tryd.func53, Tryd.ntmps53
    go_wp2
    go_ret
    exact ⟨rfl, rfl⟩
  · go_enter Tryd.func53, Tryd.ntmps53
    go_wp2
    go_ret
    exact ⟨rfl, rfl⟩
end
/-- What is wrong with n bytes from at on. -/
def mcode (B : Nat) (at_ m : Int) : Int := if 0 ≤ at_ ∧ 0 ≤ m ∧ m ≤ (B : Int) - at_ then 0 else 2
section
variable {w0 w : World} {n size b r F C : Nat} {s : Dv} {k : Dk} {D : List Nat} {W : List Wt}
/-- A device lies behind draws. -/
theorem Dev.drew (h : Dev w0 w n size b s k D W) (q : Nat) : Dev w0 (w.drewN q) n size b s k D W := h.then (grown_drewN w q none)
theorem RgAt.drew (h : RgAt w r b F C) (q : Nat) : RgAt (w.drewN q) r b F C := h.grown (grown_drewN w q none)
set_option maxRecDepth 20000 in
set_option maxHeartbeats 1000000 in
theorem gbytes_at (h : Dev w0 w n size b s k D W) (hr : RgAt w r b F C) (hC : C ≤ 65536) : Calls Tryd.prog 54 #[.pointer (some ⟨r, 0, none⟩)] w fun e w' => e = .returned (.int .i64 ((C * size : Nat) : Int)) ∧ ∃ q, w' = w.drewN q := by
  have c0 := hr.c0
  have c2 := hr.c2
  have s1 := h.disk.disk.shape.s1
  have hm : C * size ≤ 65536 * 4096 := Nat.mul_le_mul hC s1
  have hm2 : (C : Int) * (size : Int) = ((C * size : Nat) : Int) := by simp
  have hm3 : (0 : Int) ≤ (C : Int) * (size : Int) ∧ (C : Int) * (size : Int) ≤ 268435456 := by rw [hm2]; omega
  have hm4 := hm3.1
  have hm5 := hm3.2
  have H := hide (fun q => dsize_any (h.drew q))
  clear h hr hm2 hm hm3
  go_enter Tryd.func54, Tryd.ntmps54
  go_wp2_with fail
  go_quiet ((go_at_call 55; exact Calls.quiet_of_same (H.out _)))
  go_wp2
  go_ret
  exact ⟨rfl, _, rfl⟩
set_option maxRecDepth 20000 in
set_option maxHeartbeats 1000000 in
theorem ghas_at (h : Dev w0 w n size b s k D W) (hr : RgAt w r b F C) (hC : C ≤ 65536) (at_ m : Int) (hat : at_ ≤ 9223372036854775807) : Calls Tryd.prog 78 #[.pointer (some ⟨r, 0, none⟩), .int .i64 at_, .int .i64 m] w fun e w' => e = .returned (.bool (decide (mcode (C * size) at_ m = 0))) ∧ ∃ q, w' = w.drewN q := by
  have hm : C * size ≤ 65536 * 4096 := Nat.mul_le_mul hC h.disk.disk.shape.s1
  have H := hide (gbytes_at h hr hC)
  clear h hr
  unfold mcode
  generalize C * size = B at *
  by_cases h1 : 0 ≤ at_
  · by_cases h2 : 0 ≤ m
    · by_cases h3 : m ≤ (B : Int) - at_
      · rw [if_pos ⟨h1, h2, h3⟩]
        go_enter Tryd.func78, Tryd.ntmps78
        go_wp2_with fail
        refine H.out.mono ?_
        rintro e w' ⟨rfl, q, rfl⟩
        go_wp2
        go_ret
        exact ⟨rfl, q, rfl⟩
      · rw [if_neg (by omega)]
        go_enter Tryd.func78, Tryd.ntmps78
        go_wp2_with fail
        refine H.out.mono ?_
        rintro e w' ⟨rfl, q, rfl⟩
        go_wp2
        go_ret
        exact ⟨by show Ending.returned (.bool (decide (m ≤ (B : Int) - at_))) = _; rw [decide_eq_false (Int.not_le.2 h3)]; rfl, q, rfl⟩
    · rw [if_neg (by omega)]
      go_enter Tryd.func78, Tryd.ntmps78
      go_wp2
      go_ret
      exact ⟨rfl, 0, rfl⟩
  · rw [if_neg (by omega)]
    go_enter Tryd.func78, Tryd.ntmps78
    go_wp2
    go_ret
    exact ⟨rfl, 0, rfl⟩
set_option maxRecDepth 20000 in
set_option maxHeartbeats 1000000 in
theorem gmay_at (h : Dev w0 w n size b s k D W) (hr : RgAt w r b F C) (hC : C ≤ 65536) (at_ m : Int) (hat : at_ ≤ 9223372036854775807) : Calls Tryd.prog 65 #[.pointer (some ⟨r, 0, none⟩), .int .i64 at_, .int .i64 m] w fun e w' => e = .returned (.int .i64 (mcode (C * size) at_ m)) ∧ ∃ q, w' = w.drewN q := by
  have H := hide (gnone_at hr)
  have H2 := hide (ghas_at h hr hC at_ m hat)
  clear h hr
  have hv : mcode (C * size) at_ m = 0 ∨ mcode (C * size) at_ m = 2 := by unfold mcode; split <;> simp
  generalize mcode (C * size) at_ m = v at *
  rcases hv with rfl | rfl
  all_goals
    go_enter Tryd.func65, Tryd.ntmps65
    go_wp2_with fail
    refine H.out.mono ?_
    rintro e w' ⟨rfl, rfl⟩
    go_wp2_with fail
    refine H2.out.mono ?_
    rintro e w' ⟨rfl, q, rfl⟩
    go_wp2
    go_ret
    exact ⟨rfl, q, rfl⟩
set_option maxHeartbeats 400000 in
theorem gBytes_at (h : Dev w0 w n size b s k D W) (hr : RgAt w r b F C) (hC : C ≤ 65536) : Calls Tryd.prog 28 #[.pointer (some ⟨r, 0, none⟩)] w fun e w' => e = .returned (.int .i64 ((C * size : Nat) : Int)) ∧ ∃ q, w' = w.drewN q := by
  have H := hide (gnone_at hr)
  have H2 := hide (gbytes_at h hr hC)
  clear h hr
  go_enter Tryd.func28, Tryd.ntmps28
  go_wp2_with fail
  refine H.out.mono ?_
  rintro e w' ⟨rfl, rfl⟩
  go_wp2_with fail
  refine H2.out.mono ?_
  rintro e w' ⟨rfl, q, rfl⟩
  go_wp2
  go_ret
  exact ⟨rfl, q, rfl⟩
set_option maxHeartbeats 400000 in
theorem gSize_at (h : Dev w0 w n size b s k D W) (hr : RgAt w r b F C) : Calls Tryd.prog 29 #[.pointer (some ⟨r, 0, none⟩)] w fun e w' => e = .returned (.int .i64 (size : Int)) ∧ w' = w := by
  have H := hide (gnone_at hr)
  have H2 := hide (dsize_any h)
  have c0 := hr.c0
  clear h hr
  go_enter Tryd.func29, Tryd.ntmps29
  go_wp2_with fail
  refine H.out.mono ?_
  rintro e w' ⟨rfl, rfl⟩
  go_wp2_with fail
  refine H2.out.mono ?_
  rintro e w' ⟨rfl, rfl⟩
  go_wp2
  go_ret
  exact ⟨rfl, rfl⟩
def SyncPost (w0 w w' : World) (n size b : Nat) (s : Dv) (k : Dk) (D : List Nat) (W : List Wt) : Prop := ∃ k' D' W', Dev w0 w' n size b s.next k' D' W' ∧ DvM w w' b k k' W W' ∧ (D', abs W') = (if s.goes then syncA size (D, abs W) else (D, abs W)) ∧ W'.length ≤ W.length
set_option maxHeartbeats 400000 in
theorem gSync_at (h : Dev w0 w n size b s k D W) (hr : RgAt w r b F C) (hc : s.cnt < 100000) :
    Calls Tryd.prog 72 #[.pointer (some ⟨r, 0, none⟩)] w fun e w' => e = .returned (.int .i64 (s.code 0)) ∧ SyncPost w0 w w' n size b s k D W := by
  have H := hide (gnone_at hr)
  have H2 : Hid (Calls Tryd.prog 86 #[.pointer (some ⟨b, 0, none⟩)] w fun e w' => e = .returned (.int .i64 (s.code 0)) ∧ SyncPost w0 w w' n size b s k D W) := dsync_any h hc
  have c0 := hr.c0
  clear h hr
  generalize s.code 0 = x at *
  go_enter Tryd.func72, Tryd.ntmps72
  go_wp2_with fail
  refine H.out.mono ?_
  rintro e w' ⟨rfl, rfl⟩
  go_wp2_with fail
  refine H2.out.mono ?_
  rintro e w' ⟨rfl, h2⟩
  have H3 := hide h2
  clear h2
  go_wp2
  go_ret
  exact ⟨rfl, H3.out⟩
/-- May a region of these sectors be? -/
def spanOk (n : Nat) (F C : Int) : Prop := 0 ≤ F ∧ 1 ≤ C ∧ C ≤ (n : Int) - F
/-- The span's block. -/
theorem span_new (w : World) (F C : Int) : (w.alloc (.cells #[.int .i64 F, .int .i64 C] 52)).cell? ⟨w.heap.size, 0, none⟩ = some (.int .i64 F) ∧ (w.alloc (.cells #[.int .i64 F, .int .i64 C] 52)).cell? ⟨w.heap.size, 1, none⟩ = some (.int .i64 C) :=
  ⟨cell_row (l := [.int .i64 F, .int .i64 C]) (heap_alloc_new w (.cells #[.int .i64 F, .int .i64 C] 52)) 0, cell_row (l := [.int .i64 F, .int .i64 C]) (heap_alloc_new w (.cells #[.int .i64 F, .int .i64 C] 52)) 1⟩
set_option maxRecDepth 20000 in
set_option maxHeartbeats 1000000 in
theorem gnew_at (h : Dev w0 w n size b s k D W) (F C : Nat) (hok : spanOk n F C) : Calls Tryd.prog 12 #[.pointer (some ⟨b, 0, none⟩), .agg #[.int .i64 (F : Int), .int .i64 (C : Int)]] w fun e w' => ∃ r, e = .returned (.tuple #[.pointer (some ⟨r, 0, none⟩), .int .i64 0]) ∧ RgAt w' r b F C ∧ w.heap.size ≤ r ∧ w.grownBy w' none := by
  obtain ⟨h1, h2, h3⟩ := hok
  have n0 : (n : Int) ≠ 0 := by have := h.disk.disk.shape.n0; omega
  have n1 := h.disk.disk.shape.n1
  have H : Hid (∀ w1, w.grownBy w1 none → Calls Tryd.prog 27 #[.pointer (some ⟨b, 0, none⟩)] w1 fun e w' => e = .returned (.int .i64 (n : Int)) ∧ w1.grownBy w' none) := fun w1 g1 => (dsectors_any (h.then g1)).mono (by rintro e w' ⟨rfl, q, rfl⟩; exact ⟨rfl, grown_drewN _ _ _⟩)
  have G1 := hide (World.grownBy_alloc w (.cells #[.int .i64 (F : Int), .int .i64 (C : Int)] 52) none)
  have E := hide (span_new w F C)
  have hz := hide G1.out.size
  clear h
  go_enter Tryd.func12, Tryd.ntmps12
  go_wp2_with fail
  generalize w.alloc (.cells #[.int .i64 (F : Int), .int .i64 (C : Int)] 52) = w1 at *
  refine (H.out _ G1.out).mono ?_
  rintro e w2 ⟨rfl, g2⟩
  have e0 := g2.cell E.out.1 (by simp)
  have e1 := g2.cell E.out.2 (by simp)
  have G2 := hide (grown_trans G1.out g2)
  clear g2
  generalize w.heap.size = z at *
  go_wp2
  go_ret2
  have g3 := World.grownBy_alloc w2 (.cells (rgcells b F C).toArray 58) none
  exact ⟨w2.heap.size, rfl, ⟨heap_alloc_new w2 _⟩, by have := G2.out.size; have := hz.out; omega, grown_trans G2.out g3⟩
set_option maxRecDepth 20000 in
set_option maxHeartbeats 1000000 in
theorem gnew_bad (h : Dev w0 w n size b s k D W) (F C : Int) (hF : F ≤ 9223372036854775807) (hok : ¬ spanOk n F C) : Calls Tryd.prog 12 #[.pointer (some ⟨b, 0, none⟩), .agg #[.int .i64 F, .int .i64 C]] w fun e w' => e = .returned (.tuple #[.pointer none, .int .i64 2]) ∧ w.grownBy w' none := by
  unfold spanOk at hok
  have n0 : (n : Int) ≠ 0 := by have := h.disk.disk.shape.n0; omega
  have n1 := h.disk.disk.shape.n1
  have H : Hid (∀ w1, w.grownBy w1 none → Calls Tryd.prog 27 #[.pointer (some ⟨b, 0, none⟩)] w1 fun e w' => e = .returned (.int .i64 (n : Int)) ∧ w1.grownBy w' none) := fun w1 g1 => (dsectors_any (h.then g1)).mono (by rintro e w' ⟨rfl, q, rfl⟩; exact ⟨rfl, grown_drewN _ _ _⟩)
  have G1 := hide (World.grownBy_alloc w (.cells #[.int .i64 F, .int .i64 C] 52) none)
  have E := hide (span_new w F C)
  have hz := hide G1.out.size
  clear h
  by_cases h1 : 0 ≤ F
  · by_cases h2 : 1 ≤ C
    · have h3 : (n : Int) - F < C := by omega
      clear hok
      go_enter Tryd.func12, Tryd.ntmps12
      go_wp2_with fail
      generalize w.alloc (.cells #[.int .i64 F, .int .i64 C] 52) = w1 at *
      refine (H.out _ G1.out).mono ?_
      rintro e w2 ⟨rfl, g2⟩
      have e0 := g2.cell E.out.1 (by simp)
      have e1 := g2.cell E.out.2 (by simp)
      have G2 := hide (grown_trans G1.out g2)
      clear g2
      generalize w.heap.size = z at *
      go_wp2
      go_ret2
      exact ⟨rfl, G2.out⟩
    · clear hok
      go_enter Tryd.func12, Tryd.ntmps12
      go_wp2_with fail
      generalize w.alloc (.cells #[.int .i64 F, .int .i64 C] 52) = w1 at *
      refine (H.out _ G1.out).mono ?_
      rintro e w2 ⟨rfl, g2⟩
      have e0 := g2.cell E.out.1 (by simp)
      have e1 := g2.cell E.out.2 (by simp)
      have G2 := hide (grown_trans G1.out g2)
      clear g2
      generalize w.heap.size = z at *
      go_wp2
      go_ret2
      exact ⟨rfl, G2.out⟩
  · clear hok
    go_enter Tryd.func12, Tryd.ntmps12
    go_wp2_with fail
    generalize w.alloc (.cells #[.int .i64 F, .int .i64 C] 52) = w1 at *
    refine (H.out _ G1.out).mono ?_
    rintro e w2 ⟨rfl, g2⟩
    have e0 := g2.cell E.out.1 (by simp)
    have e1 := g2.cell E.out.2 (by simp)
    have G2 := hide (grown_trans G1.out g2)
    clear g2
    generalize w.heap.size = z at *
    go_wp2
    go_ret2
    exact ⟨rfl, G2.out⟩
end
end Go.Proofs.YtonokaelbpfjnaaDoor
/- The sectors that hold some bytes, gone through. -/
namespace Go.Proofs.YtonokaelbpfjnaaDoor
open Go.RowKit Ap
attribute [local go_sem ↓] Go.wp_at_zero Go.wp_at_succ

/-- What of the region's sector number at / size + j is meant. -/
def partV (size F at_ m j : Nat) : Value := .agg #[.int .i64 ((F + (at_ / size + j) : Nat) : Int), .int .i64 ((at_ - (at_ / size + j) * size : Nat) : Int), .int .i64 ((min (at_ + m - (at_ / size + j) * size) size : Nat) : Int), .int .i64 (((at_ / size + j) * size - at_ : Nat) : Int)]
/-- The numbers of piece j. -/
structure PcN (size at_ m j S d fr te : Nat) : Prop where
  eS : at_ / size + j = S
  ed : (at_ / size + j) * size - at_ = d
  ef : at_ - (at_ / size + j) * size = fr
  et : min (at_ + m - (at_ / size + j) * size) size = te
  rem : ((at_ : Int) + (d : Int)).tmod (size : Int) = (fr : Int)
  quo : ((at_ : Int) + (d : Int)).tdiv (size : Int) = (S : Int)
  mn : min ((fr : Int) + (m : Int) - (d : Int)) (size : Int) = (te : Int)
  S1 : S ≤ 268435456
  d1 : d < m
  d2 : min m d = d
  f1 : fr < te
  t1 : te ≤ size
  nx : d + (te - fr) = min m ((at_ / size + (j + 1)) * size - at_)
theorem pc_nums {size at_ m j : Nat} (hs : 0 < size) (hm : at_ + m ≤ 268435456) (hj : j < pcn size at_ m) : ∃ S d fr te, PcN size at_ m j S d fr te := by
  obtain ⟨p1, p2, p3, p4⟩ := pc_facts hs hj
  have p5 := pc_next hs hj
  have hd := (pcn_iff hs j).1 hj
  have hS : at_ / size + j ≤ (at_ / size + j) * size := Nat.le_mul_of_pos_right _ hs
  have hr : ((at_ : Int) + (((at_ / size + j) * size - at_ : Nat) : Int)).tmod (size : Int) = ((at_ - (at_ / size + j) * size : Nat) : Int) := by
    rw [← p1, ← Int.natCast_add, ← Int.ofNat_tmod]
  have hq : ((at_ : Int) + (((at_ / size + j) * size - at_ : Nat) : Int)).tdiv (size : Int) = ((at_ / size + j : Nat) : Int) := by
    rw [← Int.natCast_add, ← Int.ofNat_tdiv, p2]
  have key : ∀ Q : Nat, at_ - Q < size → Q < at_ + m → (at_ ≤ Q ∨ Q ≤ at_) → min (((at_ - Q : Nat) : Int) + (m : Int) - ((Q - at_ : Nat) : Int)) (size : Int) = ((min (at_ + m - Q) size : Nat) : Int) ∧ min m (Q - at_) = Q - at_ ∧ at_ - Q < min (at_ + m - Q) size := by
    intro Q h1 h2 h3
    omega
  obtain ⟨k1, k2, k3⟩ := key _ p3 p4 (Nat.le_total _ _)
  exact ⟨_, _, _, _, rfl, rfl, rfl, rfl, hr, hq, k1, by omega, hd, k2, k3, Nat.min_le_right _ _, p5⟩
set_option maxRecDepth 20000 in
set_option maxHeartbeats 4000000 in
theorem each_any (w : World) (r b F at_ m size _n : Nat) (gf : Nat) (c1 c2 : Value) (I : Nat → World → Prop) (J : Int → World → Prop) (hgf : gf = 67 ∨ gf = 83) (hs : 0 < size) (hs1 : size ≤ 4096) (hF : F ≤ 65536) (hm : at_ + m ≤ 268435456)
    (h0 : I 0 w) (hdrew : ∀ j w' q, I j w' → I j (w'.drewN q)) (hcell : ∀ j w', I j w' → w'.cell? ⟨r, 0, none⟩ = some (.pointer (some ⟨b, 0, none⟩)) ∧ w'.cell? ⟨r, 1, none⟩ = some (.int .i64 (F : Int)))
    (hsize : Calls Tryd.prog 55 #[.pointer (some ⟨b, 0, none⟩)] w fun e w' => e = .returned (.int .i64 (size : Int)) ∧ w' = w)
    (hdo : ∀ j w', j < pcn size at_ m → I j w' → Calls Tryd.prog gf #[partV size F at_ m j, c1, c2] w' fun e w'' => ∃ c : Int, e = .returned (.int .i64 c) ∧ (c = 0 ∧ I (j + 1) w'' ∨ c ≠ 0 ∧ J c w'')) :
    Calls Tryd.prog 66 #[.pointer (some ⟨r, 0, none⟩), .int .i64 (at_ : Int), .int .i64 (m : Int), .func (.func gf) #[] #[c1, c2]] w fun e w' => ∃ c : Int, e = .returned (.int .i64 c) ∧ (c = 0 ∧ I (pcn size at_ m) w' ∨ c ≠ 0 ∧ J c w') := by
  have H0 := hide h0
  have HD := hide hdrew
  have HC := hide hcell
  have HS := hide hsize
  have HO := hide hdo
  have a0 := (hcell 0 w h0).1
  have hz : (size : Int) ≠ 0 := by omega
  have HL := hide (pc_last (size := size) (at_ := at_) (n := m) hs)
  clear h0 hdrew hcell hsize hdo
  go_enter Tryd.func66, Tryd.ntmps66
  go_wp2_with fail
  refine HS.out.mono ?_
  rintro e w' ⟨rfl, rfl⟩
  go_wp2
  go_loopg [10] (pcn size at_ m) (fun q i wr => ∃ j : Nat, q + j = pcn size at_ m ∧ i = .int .i64 ((min m ((at_ / size + j) * size - at_) : Nat) : Int) ∧ Hid (I j wr))
  case atStart => exact ⟨0, by omega, by have := Nat.div_mul_le_self at_ size; rw [Nat.add_zero, show at_ / size * size - at_ = 0 by omega, Nat.min_zero]; rfl, H0⟩
  case round =>
    obtain ⟨j, hkj, rfl, HR⟩ := hrel
    by_cases hk : 0 < gk
    · have hj : j < pcn size at_ m := by omega
      obtain ⟨S, d, fr, te, N⟩ := pc_nums hs hm hj
      rw [N.ed, N.d2]
      have HJ := HO.out j
      unfold partV at HJ
      rw [N.ed, N.ef, N.et, N.eS] at HJ
      obtain ⟨c0r, c1r⟩ := HC.out j _ HR.out
      have HJ2 := hide (HJ · hj)
      have hrem := N.rem
      have hquo := N.quo
      have hmn := N.mn
      have hS1 := N.S1
      have hd1 := N.d1
      have hf1 := N.f1
      have ht1 := N.t1
      have HX := hide N.nx
      clear HJ N
      have HR0 := hide hmn
      by_cases hc : (fr : Int) + (m : Int) - (d : Int) ≤ (size : Int)
      · have hte : (te : Int) = (fr : Int) + (m : Int) - (d : Int) := by omega
        rw [hte] at HJ2
        clear hmn HR0
        rcases hgf with rfl | rfl
        all_goals
          go_wp2_with fail
          go_quiet (fail)
          rename_i nq
          have HQ2 := hide (HD.out j wr nq HR.out)
          generalize wr.drewN nq = w2 at *
          clear HR c0r c1r
          go_wp2_with fail
          refine (HJ2.out _ HQ2.out).mono ?_
          rintro e w3 ⟨c, rfl, h3⟩
          have H3 := hide h3
          clear h3
          by_cases hc0 : c = 0
          · subst hc0
            have HI : Hid (I (j + 1) w3) := H3.out.elim (fun h => h.2) (fun h => absurd rfl h.1)
            go_wp2
            go_roundg (gk - 1)
            case measure => omega
            case rel => exact ⟨j + 1, by omega, by rw [← HX.out]; go_num, HI⟩
          · go_wp2
            go_ret
            exact ⟨c, rfl, Or.inr ⟨hc0, H3.out.elim (fun h => absurd h.1 hc0) (fun h => h.2)⟩⟩
      · have hte : (te : Int) = (size : Int) := by omega
        rw [hte] at HJ2
        clear hmn HR0
        rcases hgf with rfl | rfl
        all_goals
          go_wp2_with fail
          go_quiet (fail)
          rename_i nq
          have HQ2 := hide (HD.out j wr nq HR.out)
          generalize wr.drewN nq = w2 at *
          clear HR c0r c1r
          go_wp2_with fail
          refine (HJ2.out _ HQ2.out).mono ?_
          rintro e w3 ⟨c, rfl, h3⟩
          have H3 := hide h3
          clear h3
          by_cases hc0 : c = 0
          · subst hc0
            have HI : Hid (I (j + 1) w3) := H3.out.elim (fun h => h.2) (fun h => absurd rfl h.1)
            go_wp2
            go_roundg (gk - 1)
            case measure => omega
            case rel => exact ⟨j + 1, by omega, by rw [← HX.out]; go_num, HI⟩
          · go_wp2
            go_ret
            exact ⟨c, rfl, Or.inr ⟨hc0, H3.out.elim (fun h => absurd h.1 hc0) (fun h => h.2)⟩⟩
    · have e : j = pcn size at_ m := by omega
      subst e
      rw [Nat.min_eq_left HL.out]
      go_wp2
      go_ret
      exact ⟨0, rfl, Or.inl ⟨rfl, HR.out⟩⟩
end Go.Proofs.YtonokaelbpfjnaaDoor
/- A region's read. -/
namespace Go.Proofs.YtonokaelbpfjnaaDoor
open Go.RowKit Ap
attribute [local go_sem ↓] Go.wp_at_zero Go.wp_at_succ

theorem slice_from (g len cap lo : Nat) (h : lo < len) (h2 : len ≤ cap) (w : World) : (Instr.slice 22 (.slice (some ⟨g, 0, none⟩) len cap) (some (.int .i64 (lo : Int))) none none).run Tryd.prog w = .ok (.slice (some ⟨g, lo, none⟩) (len - lo) (cap - lo)) w := by
  simp [Instr.slice, run_underlying Tryd.underlying22, Instr.sliceBounds, Instr.sliceBound, asIntOf, Addr.add, Nat.le_of_lt h]
  rw [if_neg (by omega)]
  split
  · rename_i e; rw [e]
  · rfl
section
variable {w0 w w' : World} {n size b : Nat} {s s' : Dv} {k : Dk} {D : List Nat} {W : List Wt}
/-- Some bytes of another block stay. -/
theorem DvM.other {k' : Dk} {W' : List Wt} (h : DvM w w' b k k' W W') {i : Nat} {o : Obj} (ho : w.heap[i]? = some o) (hk : ¬ k.own i) (hb : i ≠ b) : w'.heap[i]? = some o := h.kept.at ho (fun e => e.elim hk hb)
theorem dread_go (h : Dev w0 w n size b s k D W) (hc : s.cnt < 100000) (hgo : s.goes = true) (i : Nat) (hi : i < n) :
    Calls Tryd.prog 68 #[.pointer (some ⟨b, 0, none⟩), .int .i64 (i : Int)] w fun e w' => ∃ g : Nat, e = .returned (.tuple #[.slice (some ⟨g, 0, none⟩) size size, .int .i64 0]) ∧ w.heap.size ≤ g ∧ w'.heap[g]? = some (.cells (bv (found size D W i)).toArray 5 (0, 0)) ∧ Dev w0 w' n size b s.next k D W ∧ DvM w w' b k k W W := by
  refine (dread_any h hc (i : Int)).mono ?_
  rintro e w' ⟨v, rfl, h1, h2, h3⟩
  have hi2 : (0 : Int) ≤ (i : Int) ∧ (i : Int) < (n : Int) := by omega
  have hl := found_length h.disk.disk.len h.disk.disk.fitsW i hi
  have s0 := h.disk.disk.shape.s0
  rw [if_pos hgo, rbytes, if_pos hi2, Int.toNat_natCast] at h1
  rcases h1 with ⟨_, h1⟩ | ⟨g, rfl, g1, g2, g3⟩
  · rw [h1] at hl; simp at hl; omega
  · exact ⟨g, by rw [Dv.code, if_pos hgo, rcode, if_pos hi2], g1, g2, h2, h3⟩
theorem dread_no (h : Dev w0 w n size b s k D W) (hc : s.cnt < 100000) (hgo : s.goes = false) (i : Int) :
    Calls Tryd.prog 68 #[.pointer (some ⟨b, 0, none⟩), .int .i64 i] w fun e w' => e = .returned (.tuple #[.slice none 0 0, .int .i64 60]) ∧ Dev w0 w' n size b s.next k D W ∧ DvM w w' b k k W W := by
  refine (dread_any h hc i).mono ?_
  rintro e w' ⟨v, rfl, h1, h2, h3⟩
  have s0 := h.disk.disk.shape.s0
  rw [hgo] at h1
  rcases h1 with ⟨rfl, _⟩ | ⟨g, rfl, g1, g2, g3⟩
  · exact ⟨by rw [Dv.code, hgo]; rfl, h2, h3⟩
  · simp at g3; omega
/-- All that a read looks at. -/
structure RdS (w0 w : World) (n size b : Nat) (s : Dv) (k : Dk) (D : List Nat) (W : List Wt) (r F C br bo g m : Nat) (acc : List Nat) : Prop where
  dev : Dev w0 w n size b s k D W
  rg : RgAt w r b F C
  hbr : w.heap[br]? = some (.cells #[.pointer (some ⟨r, 0, none⟩)] 26 (0, 0))
  hbo : w.heap[bo]? = some (.cells #[.slice (some ⟨g, 0, none⟩) m m] 22 (0, 0))
  hg : w.heap[g]? = some (.cells (bv acc).toArray 5 (0, 0))
  len : acc.length = m
  off : ¬ foot k W g
  low : w0.heap.size ≤ g
variable {r F C br bo g m : Nat} {acc : List Nat}
theorem Dev.far (h : Dev w0 w n size b s k D W) {i : Nat} {c : Array Value} {t : TypeId} {fr : Nat × Nat} (ho : w.heap[i]? = some (.cells c t fr)) (h1 : t ≠ 86) (h2 : t ≠ 5) (h3 : t ≠ 160) (h4 : t ≠ 88) : ¬ k.own i ∧ i ≠ b :=
  ⟨h.disk.disk.other_off ho h1 h2 h3, fun e => by have := h.dev.head; rw [← e, ho] at this; simp at this; exact h4 this.2.1⟩
theorem RdS.goes (h : RdS w0 w n size b s k D W r F C br bo g m acc) (hd : Dev w0 w' n size b s' k D W) (hm : DvM w w' b k k W W) : RdS w0 w' n size b s' k D W r F C br bo g m acc := by
  have h1 := h.dev.far h.rg.head (by decide) (by decide) (by decide) (by decide)
  have h2 := h.dev.far h.hbr (by decide) (by decide) (by decide) (by decide)
  have h3 := h.dev.far h.hbo (by decide) (by decide) (by decide) (by decide)
  refine ⟨hd, ⟨hm.other h.rg.head h1.1 h1.2⟩, hm.other h.hbr h2.1 h2.2, hm.other h.hbo h3.1 h3.2, hm.other h.hg (fun e => h.off (.inl e)) ?_, h.len, h.off, h.low⟩
  rintro rfl
  have := h.dev.dev.head
  rw [h.hg] at this
  simp at this
theorem RdS.then (h : RdS w0 w n size b s k D W r F C br bo g m acc) (hg : w.grownBy w' none) : RdS w0 w' n size b s k D W r F C br bo g m acc :=
  ⟨h.dev.then hg, h.rg.grown hg, (hg.block _ (row_lt h.hbr) (by simp)).trans h.hbr, (hg.block _ (row_lt h.hbo) (by simp)).trans h.hbo, (hg.block _ (row_lt h.hg) (by simp)).trans h.hg, h.len, h.off, h.low⟩
theorem RdS.gb (h : RdS w0 w n size b s k D W r F C br bo g m acc) : g ≠ b := by
  rintro rfl
  have := h.dev.dev.head
  rw [h.hg] at this
  simp at this
/-- The bytes' block is written. -/
theorem RdS.put {acc' : List Nat} (h : RdS w0 w n size b s k D W r F C br bo g m acc) (hg : w.grownBy w' (some g)) (ha : w'.heap[g]? = some (.cells (bv acc').toArray 5 (0, 0))) (hl : acc'.length = m) : RdS w0 w' n size b s k D W r F C br bo g m acc' := by
  have hk : ∀ i o, w.heap[i]? = some o → i ≠ g → w'.heap[i]? = some o := fun i o ho hi => (hg.block i (row_lt ho) (fun e => hi (Option.some.inj e))).trans ho
  refine ⟨⟨h.dev.disk.row hg (fun i hi e => h.off (e ▸ hi)) h.low, ⟨hk _ _ h.dev.dev.head (fun e => h.gb e.symm), h.dev.dev.ok⟩, h.dev.low⟩, ⟨hk _ _ h.rg.head ?_⟩, hk _ _ h.hbr ?_, hk _ _ h.hbo ?_, ha, hl, h.off, h.low⟩
  · rintro rfl; have := h.rg.head; rw [h.hg] at this; simp at this
  · rintro rfl; have := h.hbr; rw [h.hg] at this; simp at this
  · rintro rfl; have := h.hbo; rw [h.hg] at this; simp at this
end
end Go.Proofs.YtonokaelbpfjnaaDoor
/- A region's read: one sector of it. -/
namespace Go.Proofs.YtonokaelbpfjnaaDoor
open Go.RowKit Ap
attribute [local go_sem ↓] Go.wp_at_zero Go.wp_at_succ

def pcells (sc fr te d : Int) : List Value := [.int .i64 sc, .int .i64 fr, .int .i64 te, .int .i64 d]
theorem part_new (w : World) (sc fr te d : Int) : (w.alloc (.cells #[.int .i64 sc, .int .i64 fr, .int .i64 te, .int .i64 d] 143)).heap[w.heap.size]? = some (.cells (pcells sc fr te d).toArray 143 (0, 0)) := heap_alloc_new w _
section
variable {w0 w w' : World} {n size b : Nat} {s s' : Dv} {k : Dk} {D : List Nat} {W : List Wt} {r F C br bo g m : Nat} {acc : List Nat}
set_option maxRecDepth 20000 in
set_option maxHeartbeats 4000000 in
theorem rd1_go (h : RdS w0 w n size b s k D W r F C br bo g m acc) (hc : s.cnt < 100000) (hgo : s.goes = true) (sc fr te d : Nat) (hsc : sc < n) (hft : fr < te) (hte : te ≤ size) (hd : d + (te - fr) ≤ m) :
    Calls Tryd.prog 67 #[.agg #[.int .i64 (sc : Int), .int .i64 (fr : Int), .int .i64 (te : Int), .int .i64 (d : Int)], .pointer (some ⟨br, 0, none⟩), .pointer (some ⟨bo, 0, none⟩)] w fun e w' => e = .returned (.int .i64 0) ∧ RdS w0 w' n size b s.next k D W r F C br bo g m (splice acc d (((found size D W sc).drop fr).take (te - fr))) ∧ Kept w w' (fun i => k.own i ∨ i = b ∨ i = g) := by
  have g1 := World.grownBy_alloc w (.cells #[.int .i64 (sc : Int), .int .i64 (fr : Int), .int .i64 (te : Int), .int .i64 (d : Int)] 143) none
  have H1 := hide (And.intro (h.then g1) (part_new w sc fr te d))
  have G1 := hide g1
  have hlen := hide (found_length h.dev.disk.disk.len h.dev.disk.disk.fitsW sc hsc)
  have hs1 := h.dev.disk.disk.shape.s1
  clear h g1
  go_enter Tryd.func67, Tryd.ntmps67
  go_wp2_with fail
  generalize w.alloc (.cells #[.int .i64 (sc : Int), .int .i64 (fr : Int), .int .i64 (te : Int), .int .i64 (d : Int)] 143) = w1 at *
  generalize hp : w.heap.size = p at *
  have HP := hide hp
  clear hp
  have a0 : w1.cell? ⟨br, 0, none⟩ = some (.pointer (some ⟨r, 0, none⟩)) := cell_row (l := [_]) H1.out.1.hbr 0
  have a1 := H1.out.1.rg.c0
  have a2 : w1.cell? ⟨p, 0, none⟩ = some (.int .i64 (sc : Int)) := cell_row H1.out.2 0
  have hS0 := And.intro a0 (And.intro a1 a2)
  have HX : Hid (∀ w2 : World, w1.grownBy w2 none → Calls Tryd.prog 68 #[.pointer (some ⟨b, 0, none⟩), .int .i64 (sc : Int)] w2 fun e w' => ∃ g2 : Nat, e = .returned (.tuple #[.slice (some ⟨g2, 0, none⟩) size size, .int .i64 0]) ∧
      (RdS w0 w' n size b s.next k D W r F C br bo g m acc ∧ w'.heap[p]? = some (.cells (pcells sc fr te d).toArray 143 (0, 0)) ∧ w'.heap[g2]? = some (.cells (bv (found size D W sc)).toArray 5 (0, 0)) ∧ g2 ≠ g ∧ Kept w1 w' (fun i => k.own i ∨ i = b))) := by
    intro w2 hg2
    have hR := H1.out.1.then hg2
    have hP2 := (hg2.block _ (row_lt H1.out.2) (by simp)).trans H1.out.2
    refine (dread_go hR.dev hc hgo sc hsc).mono ?_
    rintro e w' ⟨g2, rfl, q1, q2, q3, q4⟩
    have hf := hR.dev.far hP2 (by decide) (by decide) (by decide) (by decide)
    exact ⟨g2, rfl, hR.goes q3 q4, q4.other hP2 hf.1 hf.2, q2, (fun e => by have := row_lt hR.hg; omega), (Kept.new hg2 _).trans q4.kept (fun _ _ e => e)⟩
  go_region_held3 (fun w' => w'.cell? ⟨br, 0, none⟩ = some (.pointer (some ⟨r, 0, none⟩)) ∧ w'.cell? ⟨r, 0, none⟩ = some (.pointer (some ⟨b, 0, none⟩)) ∧ w'.cell? ⟨p, 0, none⟩ = some (.int .i64 (sc : Int))) (first | assumption | go_keep) (first
    | (go_at_call 68; refine (HX.out _ (grown_drew _ _)).mono ?_; rintro e w2 ⟨g2, rfl, hq⟩; have H2 := hide hq; clear hq; have hS2 : w2.cell? ⟨br, 0, none⟩ = some (.pointer (some ⟨r, 0, none⟩)) ∧ w2.cell? ⟨r, 0, none⟩ = some (.pointer (some ⟨b, 0, none⟩)) ∧ w2.cell? ⟨p, 0, none⟩ = some (.int .i64 (sc : Int)) := ⟨cell_row (l := [_]) H2.out.1.hbr 0, H2.out.1.rg.c0, cell_row H2.out.2.1 0⟩))
  rename_i hHeld
  clear hHeld hS2 hS0 a0 a1 a2 HX
  have b0 : w2.cell? ⟨bo, 0, none⟩ = some (.slice (some ⟨g, 0, none⟩) m m) := cell_row (l := [_]) H2.out.1.hbo 0
  have b1 : w2.cell? ⟨p, 1, none⟩ = some (.int .i64 (fr : Int)) := cell_row H2.out.2.1 1
  have b2 : w2.cell? ⟨p, 2, none⟩ = some (.int .i64 (te : Int)) := cell_row H2.out.2.1 2
  have b3 : w2.cell? ⟨p, 3, none⟩ = some (.int .i64 (d : Int)) := cell_row H2.out.2.1 3
  have hsl1 := slice_from g m m d (by omega) (Nat.le_refl _)
  have hsl2 := slice_lh g2 size size fr te hft hte
  obtain ⟨XV, hXV⟩ : ∃ XV, XV = bv (((found size D W sc).drop fr).take (te - fr)) := ⟨_, rfl⟩
  obtain ⟨AV, hAV⟩ : ∃ AV, AV = bv acc := ⟨_, rfl⟩
  have HCP : Hid (∀ w3 : World, w2.grownBy w3 none → w3.heap[g]? = some (.cells AV.toArray 5 (0, 0)) ∧ XV.length = Nat.min (te - fr) (m - d) ∧
      (0 < XV.length → ∃ ad, some (⟨g2, fr, none⟩ : Addr) = some ad ∧ ∀ j v, XV[j]? = some v → w3.cell? (ad.add j) = some v) ∧ d + XV.length ≤ AV.length ∧ (∀ v ∈ XV, v.oneCell' = true)) := by
    intro w3 hg3
    have hl := hlen.out
    have hlx : XV.length = te - fr := by rw [hXV, bv_length]; simp; omega
    have hla : AV.length = m := by rw [hAV, bv_length]; exact H2.out.1.len
    refine ⟨by rw [hAV]; exact (hg3.block _ (row_lt H2.out.1.hg) (by simp)).trans H2.out.1.hg, by rw [hlx]; exact (Nat.min_eq_left (by omega)).symm, fun _ => ⟨_, rfl, ?_⟩, by omega, ?_⟩
    · intro i v hv
      rw [hXV, bv, List.getElem?_map] at hv
      cases hj : (((found size D W sc).drop fr).take (te - fr))[i]? with
      | none => simp [hj] at hv
      | some y =>
        simp [hj] at hv
        obtain ⟨a', ea', hc'⟩ := ((at_drop ((hg3.block _ (row_lt H2.out.2.2.1) (by simp)).trans H2.out.2.2.1) fr).take (te - fr)) i y hj
        cases ea'
        rw [← hv]; exact hc'
    · intro v hv; rw [hXV, bv, List.mem_map] at hv; obtain ⟨y, _, rfl⟩ := hv; rfl
  have HTT : Hid (∀ w5 : World, w2.grownBy w5 (some g) → w5.cell? ⟨bo, 0, none⟩ = some (.slice (some ⟨g, 0, none⟩) m m) ∧ w5.cell? ⟨p, 1, none⟩ = some (.int .i64 (fr : Int)) ∧ w5.cell? ⟨p, 2, none⟩ = some (.int .i64 (te : Int)) ∧ w5.cell? ⟨p, 3, none⟩ = some (.int .i64 (d : Int))) := by
    intro w5 hg5
    have n1 : some bo ≠ some g := fun e => by have e := Option.some.inj e; have := H2.out.1.hbo; rw [e, H2.out.1.hg] at this; simp at this
    have n2 : some p ≠ some g := fun e => by have e := Option.some.inj e; have := H2.out.2.1; rw [e, H2.out.1.hg] at this; simp at this
    exact ⟨hg5.cell b0 n1, hg5.cell b1 n2, hg5.cell b2 n2, hg5.cell b3 n2⟩
  have HEQ := hide (And.intro hXV hAV)
  clear hXV hAV
  have hT0 := And.intro b0 (And.intro b1 (And.intro b2 b3))
  go_wp2_with fail
  go_region_held3 (fun w' => w'.cell? ⟨bo, 0, none⟩ = some (.slice (some ⟨g, 0, none⟩) m m) ∧ w'.cell? ⟨p, 1, none⟩ = some (.int .i64 (fr : Int)) ∧ w'.cell? ⟨p, 2, none⟩ = some (.int .i64 (te : Int)) ∧ w'.cell? ⟨p, 3, none⟩ = some (.int .i64 (d : Int))) (first | assumption | go_keep) (first
    | (refine step_copy_grown rfl (.tmp 23) (.tmp 29) 22 22 rfl 5 Tryd.underlying22 Tryd.size5 (some ⟨g, d, none⟩) (some ⟨g2, fr, none⟩) (m - d) (m - d) (te - fr) (size - fr) (by rfl) (by rfl) g d AV 5 (HCP.out _ (grown_drew _ _)).1 XV (HCP.out _ (grown_drew _ _)).2.1 (fun hp => ⟨rfl, (HCP.out _ (grown_drew _ _)).2.2.1 hp⟩) (HCP.out _ (grown_drew _ _)).2.2.2.1 (HCP.out _ (grown_drew _ _)).2.2.2.2 ?_; intro w5 H5 hg5'; have hg5 := grown_trans (grown_none (grown_drew w2 none) (some g)) hg5'; clear hg5'; have hT5 := HTT.out w5 hg5))
  rename_i hHeld
  have H6 : Hid (RdS w0 w5 n size b s.next k D W r F C br bo g m (splice acc d (((found size D W sc).drop fr).take (te - fr))) ∧ Kept w w5 (fun i => k.own i ∨ i = b ∨ i = g)) := by
    obtain ⟨e1, e2⟩ := HEQ.out
    have hl := hlen.out
    refine ⟨H2.out.1.put hg5 (by rw [H5.out, e1, e2, bv_splice]) (by rw [length_splice _ _ _ (by rw [H2.out.1.len]; simp; omega)]; exact H2.out.1.len), ?_⟩
    exact ((Kept.new G1.out _).trans H2.out.2.2.2.2 (fun i _ e => e.imp id .inl)).trans (Kept.of hg5 (S := fun i => i = g) (fun _ e _ => (Option.some.inj e).symm)) (fun i _ e => .inr (.inr e))
  clear hHeld hT5 hT0 hg5 H5 b0 b1 b2 b3 HTT HCP HEQ hsl1 hsl2
  go_wp2
  go_ret
  exact ⟨rfl, H6.out⟩
set_option maxRecDepth 20000 in
set_option maxHeartbeats 4000000 in
theorem rd1_no (h : RdS w0 w n size b s k D W r F C br bo g m acc) (hc : s.cnt < 100000) (hgo : s.goes = false) (sc fr te d : Int) :
    Calls Tryd.prog 67 #[.agg #[.int .i64 sc, .int .i64 fr, .int .i64 te, .int .i64 d], .pointer (some ⟨br, 0, none⟩), .pointer (some ⟨bo, 0, none⟩)] w fun e w' => e = .returned (.int .i64 60) ∧ RdS w0 w' n size b s.next k D W r F C br bo g m acc ∧ Kept w w' (fun i => k.own i ∨ i = b) := by
  have g1 := World.grownBy_alloc w (.cells #[.int .i64 sc, .int .i64 fr, .int .i64 te, .int .i64 d] 143) none
  have H1 := hide (And.intro (h.then g1) (part_new w sc fr te d))
  have G1 := hide g1
  clear h g1
  go_enter Tryd.func67, Tryd.ntmps67
  go_wp2_with fail
  generalize w.alloc (.cells #[.int .i64 sc, .int .i64 fr, .int .i64 te, .int .i64 d] 143) = w1 at *
  generalize hp : w.heap.size = p at *
  have HP := hide hp
  clear hp
  have a0 : w1.cell? ⟨br, 0, none⟩ = some (.pointer (some ⟨r, 0, none⟩)) := cell_row (l := [_]) H1.out.1.hbr 0
  have a1 := H1.out.1.rg.c0
  have a2 : w1.cell? ⟨p, 0, none⟩ = some (.int .i64 sc) := cell_row H1.out.2 0
  have hS0 := And.intro a0 (And.intro a1 a2)
  have HX : Hid (∀ w2 : World, w1.grownBy w2 none → Calls Tryd.prog 68 #[.pointer (some ⟨b, 0, none⟩), .int .i64 sc] w2 fun e w' => e = .returned (.tuple #[.slice none 0 0, .int .i64 60]) ∧
      (RdS w0 w' n size b s.next k D W r F C br bo g m acc ∧ w'.heap[p]? = some (.cells (pcells sc fr te d).toArray 143 (0, 0)) ∧ Kept w1 w' (fun i => k.own i ∨ i = b))) := by
    intro w2 hg2
    have hR := H1.out.1.then hg2
    have hP2 := (hg2.block _ (row_lt H1.out.2) (by simp)).trans H1.out.2
    refine (dread_no hR.dev hc hgo sc).mono ?_
    rintro e w' ⟨rfl, q3, q4⟩
    have hf := hR.dev.far hP2 (by decide) (by decide) (by decide) (by decide)
    exact ⟨rfl, hR.goes q3 q4, q4.other hP2 hf.1 hf.2, (Kept.new hg2 _).trans q4.kept (fun _ _ e => e)⟩
  go_region_held3 (fun w' => w'.cell? ⟨br, 0, none⟩ = some (.pointer (some ⟨r, 0, none⟩)) ∧ w'.cell? ⟨r, 0, none⟩ = some (.pointer (some ⟨b, 0, none⟩)) ∧ w'.cell? ⟨p, 0, none⟩ = some (.int .i64 sc)) (first | assumption | go_keep) (first
    | (go_at_call 68; refine (HX.out _ (grown_drew _ _)).mono ?_; rintro e w2 ⟨rfl, hq⟩; have H2 := hide hq; clear hq; have hS2 : w2.cell? ⟨br, 0, none⟩ = some (.pointer (some ⟨r, 0, none⟩)) ∧ w2.cell? ⟨r, 0, none⟩ = some (.pointer (some ⟨b, 0, none⟩)) ∧ w2.cell? ⟨p, 0, none⟩ = some (.int .i64 sc) := ⟨cell_row (l := [_]) H2.out.1.hbr 0, H2.out.1.rg.c0, cell_row H2.out.2.1 0⟩))
  rename_i hHeld
  clear hHeld hS2 hS0 a0 a1 a2 HX
  go_wp2
  go_ret
  exact ⟨rfl, H2.out.1, (Kept.new G1.out _).trans H2.out.2.2 (fun _ _ e => e)⟩
end
end Go.Proofs.YtonokaelbpfjnaaDoor
