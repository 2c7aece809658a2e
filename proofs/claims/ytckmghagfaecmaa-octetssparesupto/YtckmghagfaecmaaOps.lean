/- A script's steps as the statements lay them before a Writer and a Reader; what put and got come to. -/
import Derived.Test.YtckmghagfaecmaaKit
namespace Go.Proofs.Ytckmghagfaecmaa
open Go.RowKit
attribute [local go_sem ↓] Go.wp_at_zero Go.wp_at_succ

/-- A step. -/
structure OpD where
  kind : Int
  N : Int
  take : Int
  b : List Int
structure OpOk (o : OpD) : Prop where
  n0 : 0 ≤ o.N
  n1 : o.N < 18446744073709551616
  t0 : -9223372036854775808 ≤ o.take
  t1 : o.take ≤ 9223372036854775807
  byt : Byt o.b
/-- The bytes of a step lie somewhere. -/
def BAt (w : World) (bo : Option Addr) (cap : Nat) (b : List Int) : Prop := At w bo b ∧ b.length ≤ cap ∧ cap ≤ maxLen ∧ (bo = none → cap = 0)
theorem BAt.kept {w w' : World} {bo : Option Addr} {cap : Nat} {b : List Int} (h : BAt w bo cap b) (hg : w.grownBy w' none) : BAt w' bo cap b := ⟨h.1.kept hg (by simp), h.2⟩
/-- A step's value. -/
def opV (o : OpD) (bo : Option Addr) (cap : Nat) : Value := .agg #[.int .i64 o.kind, .int .u64 o.N, .int .i64 o.take, .slice bo o.b.length cap]

/-- What a step puts. -/
def putF (o : OpD) : List Int :=
  if o.kind = 1 then [o.N % 256] else if o.kind = 2 then leB (o.N % 65536) 2 else if o.kind = 3 then leB (o.N % 4294967296) 4 else if o.kind = 4 then leB o.N 8 else if o.kind = 5 then o.b else []
theorem putF_len (o : OpD) : (putF o).length ≤ 8 + o.b.length := by
  unfold putF
  repeat (first | split | (simp [leB_length]; omega) | simp [leB_length] | omega)
theorem putF_byt (o : OpD) (h : OpOk o) : Byt (putF o) := by
  unfold putF
  split
  · intro x hx; simp at hx; omega
  · split
    · exact byt_leB _ _
    · split
      · exact byt_leB _ _
      · split
        · exact byt_leB _ _
        · split
          · exact h.byt
          · intro x hx; cases hx

set_option maxHeartbeats 1000000 in
theorem put_op (g : Nat) (bs : List Int) (o : OpD) (bo : Option Addr) (cap : Nat) (w : World) (hW : WrAt w g bs) (ho : OpOk o) (hb : BAt w bo cap o.b) (hL : bs.length ≤ 1000000000) (hbl : o.b.length ≤ 1000000000) :
    Calls Try.prog 35 #[.pointer (some ⟨g, 0, none⟩), .agg #[.int .i64 o.kind, .int .u64 o.N, .int .i64 o.take, .slice bo o.b.length cap]] w fun e w' => e = .returned (.tuple #[]) ∧ WrAt w' g (bs ++ putF o) ∧ w.grownBy w' (some g) := by
  obtain ⟨k, N, T, b⟩ := o
  have hn0 := ho.n0
  have hn1 := ho.n1
  simp only at hn0 hn1 hb hbl ⊢
  have hW1 : ∀ C t, WrAt (w.alloc (.cells C t)) g bs := fun C t => hW.kept (World.grownBy_alloc w _ none) (by simp) (NoBlock.none _)
  have hgl := hW.lt
  have HW := hide hW1
  have HB := hide (And.intro hb trivial)
  have hga : ∀ C t, w.grownBy (w.alloc (.cells C t)) (some g) := fun C t => World.grownBy_alloc w _ _
  have HG := hide hga
  clear hb hW hW1 hga ho
  by_cases h1 : k = 1
  · subst h1
    have HP : Hid (putF ⟨1, N, T, b⟩ = [N % 256]) := rfl
    go_enter Try.func35, Try.ntmps35
    go_wp2_with fail
    refine (byte_any g bs (N % 256) _ (HW.out _ _) (by omega)).mono ?_
    rintro e w' ⟨rfl, hwr, hg⟩
    go_wp2
    go_end0
    rw [HP.out]
    exact ⟨rfl, hwr, grown_trans (HG.out _ _) hg⟩
  by_cases h2 : k = 2
  · subst h2
    have HP : Hid (putF ⟨2, N, T, b⟩ = leB (N % 65536) 2) := rfl
    go_enter Try.func35, Try.ntmps35
    go_wp2_with fail
    refine (two_any g bs (N % 65536) _ (HW.out _ _) (by omega) (by omega) (by omega)).mono ?_
    rintro e w' ⟨rfl, hwr, hg⟩
    go_wp2
    go_end0
    rw [HP.out]
    exact ⟨rfl, hwr, grown_trans (HG.out _ _) hg⟩
  by_cases h3 : k = 3
  · subst h3
    have HP : Hid (putF ⟨3, N, T, b⟩ = leB (N % 4294967296) 4) := rfl
    go_enter Try.func35, Try.ntmps35
    go_wp2_with fail
    refine (four_any g bs (N % 4294967296) _ (HW.out _ _) (by omega) (by omega) (by omega)).mono ?_
    rintro e w' ⟨rfl, hwr, hg⟩
    go_wp2
    go_end0
    rw [HP.out]
    exact ⟨rfl, hwr, grown_trans (HG.out _ _) hg⟩
  by_cases h4 : k = 4
  · subst h4
    have HP : Hid (putF ⟨4, N, T, b⟩ = leB N 8) := rfl
    go_enter Try.func35, Try.ntmps35
    go_wp2_with fail
    refine (eight_any g bs N _ (HW.out _ _) hn0 hn1 (by omega)).mono ?_
    rintro e w' ⟨rfl, hwr, hg⟩
    go_wp2
    go_end0
    rw [HP.out]
    exact ⟨rfl, hwr, grown_trans (HG.out _ _) hg⟩
  by_cases h5 : k = 5
  · subst h5
    have HP : Hid (putF ⟨5, N, T, b⟩ = b) := rfl
    go_enter Try.func35, Try.ntmps35
    go_wp2_with fail
    refine (copy_any bo b.length cap b _ rfl (HB.out.1.kept (World.grownBy_alloc w _ none)).1 (fun e => ?_) (by omega)).mono ?_
    · have h6 := HB.out.1.2
      have := h6.2.2 e
      omega
    rintro e w2 ⟨v, rfl, hown, hg2⟩
    obtain ⟨ao', cap', rfl, hl, hnc, hcm, hat', hnil', h5⟩ := own_at hown
    have HO := hide (And.intro hat' (And.intro h5 hg2))
    clear hl hat' hnil' h5 hg2 hown
    go_wp2_with fail
    refine (put_any g b.length bs b ao' cap' _ ((HW.out _ _).kept HO.out.2.2 (by simp) (NoBlock.none _)) rfl HO.out.1 (fun a ha => ?_) hnc hcm (by omega)).mono ?_
    · have := (HO.out.2.1 a ha).1
      simp at this; omega
    rintro e w' ⟨rfl, hwr, hg⟩
    go_wp2
    go_end0
    rw [HP.out]
    exact ⟨rfl, hwr, grown_trans (grown_trans (HG.out _ _) (grown_none HO.out.2.2 _)) hg⟩
  have HP : Hid (putF ⟨k, N, T, b⟩ = []) := by show _ = _; simp [putF, h1, h2, h3, h4, h5]
  have e1 : (k == 1) = false := beq_eq_false_iff_ne.2 h1
  have e2 : (k == 2) = false := beq_eq_false_iff_ne.2 h2
  have e3 : (k == 3) = false := beq_eq_false_iff_ne.2 h3
  have e4 : (k == 4) = false := beq_eq_false_iff_ne.2 h4
  have e5 : (k == 5) = false := beq_eq_false_iff_ne.2 h5
  go_enter Try.func35, Try.ntmps35
  go_wp2
  go_end0
  rw [HP.out, List.append_nil]
  exact ⟨rfl, HW.out _ _, HG.out _ _⟩

theorem takeF_zero (xs : List Int) (e : Int) : (takeF xs e 0).2 = (xs, e) := by
  unfold takeF
  split
  · rfl
  · rename_i h
    have : e = 0 := by simpa using h
    have h2 : ¬ ((xs.length : Int) < 0) := by omega
    simp [this, h2]
theorem takeF_hit (p rest : List Int) (n : Int) (h : n = p.length) : takeF (p ++ rest) 0 n = (p, rest, 0) := by
  subst h
  have : ¬ ((p.length : Int) + (rest.length : Int) < (p.length : Int)) := by omega
  simp [takeF, this]

set_option maxHeartbeats 1000000 in
theorem same_gen (ao bo : Option Addr) (n m c d : Nat) (xs ys : List Int) (w : World) (hn : xs.length = n) (hm : ys.length = m) (ha : At w ao xs) (hb : At w bo ys) (hnm : n ≤ 4611686018427387904) :
    Calls Try.prog 30 #[.slice ao n c, .slice bo m d] w fun e w' => ∃ res, e = .returned (.bool res) ∧ w.grownBy w' none ∧ (xs = ys → res = true) := by
  by_cases hl : n = m
  · subst hl
    have HA := hide (And.intro hn (And.intro hm (And.intro ha hb)))
    clear hn hm ha hb
    go_enter Try.func30, Try.ntmps30
    go_wp2
    go_loopg [5] n (fun k i wr => ∃ j : Nat, k + j = n ∧ i = .int .i64 j ∧ w.grownBy wr none)
    case atStart => exact ⟨0, by omega, rfl, grown_refl _ _⟩
    case round =>
      obtain ⟨j, hkj, rfl, hg⟩ := hrel
      by_cases hk : 0 < gk
      · obtain ⟨hn, hm, ha, hb⟩ := HA.out
        have hj : j < xs.length := by omega
        have hj' : j < ys.length := by omega
        obtain ⟨a, rfl, hca⟩ := ha j xs[j] (by simp [hj])
        obtain ⟨b, rfl, hcb⟩ := hb j ys[j] (by simp [hj'])
        have hca' := hg.cell hca (by simp)
        have hcb' := hg.cell hcb (by simp)
        have h1 : (0 : Int) ≤ (j : Int) := by omega
        have h2 : (j : Int) < (n : Int) := by omega
        have HE : Hid (xs = ys → xs[j] = ys[j]) := fun e => by subst e; rfl
        generalize xs[j] = x at *
        generalize ys[j] = y at *
        clear hn hm ha hb hca hcb hj hj'
        by_cases hxy : x = y
        · subst hxy
          go_wp2
          go_region_held3 (fun w' => w'.cell? (a.add j) = some (.int .u8 x) ∧ w'.cell? (b.add j) = some (.int .u8 x)) (go_keep) (fail)
          go_wp2
          go_roundg (gk - 1)
          case measure => omega
          case rel => exact ⟨j + 1, by omega, by go_num, grown_trans hg (grown_drew _ _)⟩
        · have hne : (x != y) = true := by simpa using hxy
          go_wp2
          go_region_held3 (fun w' => w'.cell? (a.add j) = some (.int .u8 x) ∧ w'.cell? (b.add j) = some (.int .u8 y)) (go_keep) (fail)
          go_wp2
          go_ret
          exact ⟨_, rfl, grown_trans hg (grown_drew _ _), fun e => absurd (HE.out e) hxy⟩
      · have hj : j = n := by omega
        subst hj
        go_wp2
        go_ret
        exact ⟨_, rfl, hg, fun _ => rfl⟩
  · have HE : Hid (xs = ys → False) := fun e => by subst e; omega
    have hne : ((n : Int) != (m : Int)) = true := by simp; omega
    go_enter Try.func30, Try.ntmps30
    go_wp2
    go_ret
    exact ⟨_, rfl, grown_refl _ _, fun e => (HE.out e).elim⟩

/-- A bool is answered, of which T holds. -/
def Gets (r : Ending) (T : Bool → Prop) : Prop := ∃ res, r = .returned (.bool res) ∧ T res
theorem at_kept {w w' : World} {bo : Option Addr} {b : List Int} {k : Nat} (h : At w bo b) (ho : b ≠ [] → Off bo k) (hg : w.grownBy w' (some k)) : At w' bo b := by
  by_cases hb : b = []
  · subst hb; exact At.nil _ _
  · exact h.kept hg (ho hb).ne

set_option maxHeartbeats 1000000 in
theorem got_op (b0 : Nat) (xs : List Int) (e : Int) (o : OpD) (bo : Option Addr) (cap : Nat) (w : World) (hR : RdAt w b0 xs e) (hX : Byt xs) (ho : OpOk o) (hb : BAt w bo cap o.b) (hB : o.b ≠ [] → Off bo b0) (hL : xs.length ≤ 1000000000) (hbl : o.b.length ≤ 1000000000) :
    Calls Try.prog 36 #[.pointer (some ⟨b0, 0, none⟩), .agg #[.int .i64 o.kind, .int .u64 o.N, .int .i64 o.take, .slice bo o.b.length cap]] w fun r w' => Gets r (fun res => RdAt w' b0 (takeF xs e (putF o).length).2.1 (takeF xs e (putF o).length).2.2 ∧ w.grownBy w' (some b0) ∧ (∀ rest, e = 0 → xs = putF o ++ rest → res = true)) := by
  obtain ⟨k, N, T, b⟩ := o
  have hn0 := ho.n0
  have hn1 := ho.n1
  simp only at hn0 hn1 hb hbl ⊢
  have hR1 : ∀ C t, RdAt (w.alloc (.cells C t)) b0 xs e := fun C t => hR.kept (World.grownBy_alloc w _ none) (by simp) (NoBytes.none _)
  have hgl := hR.lt
  have HR := hide hR1
  have HB := hide (And.intro hb hB)
  have hga : ∀ C t, w.grownBy (w.alloc (.cells C t)) (some b0) := fun C t => World.grownBy_alloc w _ _
  have HG := hide hga
  clear hb hB hR hR1 hga ho
  by_cases h1 : k = 1
  · subst h1
    have HP : Hid (putF ⟨1, N, T, b⟩ = [N % 256]) := rfl
    have hl1 : (((putF ⟨1, N, T, b⟩).length : Nat) : Int) = 1 := by rw [HP.out]; rfl
    have HV : Hid (leV (putF ⟨1, N, T, b⟩) = N % 256) := by
      show _ = _
      rw [HP.out]
      first | (rw [leV_leB _ (by omega)]; omega) | simp [leV]
    have HT : Hid (∀ rest, takeF (putF ⟨1, N, T, b⟩ ++ rest) 0 1 = (putF ⟨1, N, T, b⟩, rest, 0)) := fun rest => takeF_hit _ rest _ hl1.symm
    rw [hl1]
    have cN : (w.alloc (.cells #[.int .i64 1, .int .u64 N, .int .i64 T, .slice bo b.length cap] 55)).cell? ⟨w.heap.size, 1, none⟩ = some (.int .u64 N) := by
      rw [cell_of_row _ _ 1 _ 55 (0, 0) (heap_alloc_new w _)]; rfl
    obtain ⟨P, hP⟩ : ∃ P, putF ⟨1, N, T, b⟩ = P := ⟨_, rfl⟩
    rw [hP] at HV HT ⊢
    clear HP hP hl1
    go_enter Try.func36, Try.ntmps36
    go_wp2
    go_region_held3 (fun w' => w'.cell? ⟨w.heap.size, 1, none⟩ = some (.int .u64 N)) (first | exact cN | assumption | go_keep) ((go_at_call 14; refine (rbyte_any b0 xs e _ ?_ hX).mono ?_; exact HR.out _ _; rintro r w1 ⟨rfl, hR1, hg1⟩; have hk1 := hg1.cell (a := ⟨w.heap.size, 1, none⟩) (v := .int .u64 N) cN (by simp; omega)))
    go_wp2
    go_ret
    refine ⟨_, rfl, hR1, grown_trans (grown_trans (HG.out _ _) (grown_drew _ _)) hg1, fun rest he hx => ?_⟩
    rw [he, hx, HT.out rest, HV.out, IntKind.wrap_u8']
    simp
  by_cases h2 : k = 2
  · subst h2
    have HP : Hid (putF ⟨2, N, T, b⟩ = leB (N % 65536) 2) := rfl
    have hl1 : (((putF ⟨2, N, T, b⟩).length : Nat) : Int) = 2 := by rw [HP.out]; rfl
    have HV : Hid (leV (putF ⟨2, N, T, b⟩) = N % 65536) := by
      show _ = _
      rw [HP.out]
      first | (rw [leV_leB _ (by omega)]; omega) | simp [leV]
    have HT : Hid (∀ rest, takeF (putF ⟨2, N, T, b⟩ ++ rest) 0 2 = (putF ⟨2, N, T, b⟩, rest, 0)) := fun rest => takeF_hit _ rest _ hl1.symm
    rw [hl1]
    have cN : (w.alloc (.cells #[.int .i64 2, .int .u64 N, .int .i64 T, .slice bo b.length cap] 55)).cell? ⟨w.heap.size, 1, none⟩ = some (.int .u64 N) := by
      rw [cell_of_row _ _ 1 _ 55 (0, 0) (heap_alloc_new w _)]; rfl
    obtain ⟨P, hP⟩ : ∃ P, putF ⟨2, N, T, b⟩ = P := ⟨_, rfl⟩
    rw [hP] at HV HT ⊢
    clear HP hP hl1
    go_enter Try.func36, Try.ntmps36
    go_wp2
    go_region_held3 (fun w' => w'.cell? ⟨w.heap.size, 1, none⟩ = some (.int .u64 N)) (first | exact cN | assumption | go_keep) ((go_at_call 15; refine (rtwo_any b0 xs e _ ?_ hX).mono ?_; exact HR.out _ _; rintro r w1 ⟨rfl, hR1, hg1⟩; have hk1 := hg1.cell (a := ⟨w.heap.size, 1, none⟩) (v := .int .u64 N) cN (by simp; omega)))
    go_wp2
    go_ret
    refine ⟨_, rfl, hR1, grown_trans (grown_trans (HG.out _ _) (grown_drew _ _)) hg1, fun rest he hx => ?_⟩
    rw [he, hx, HT.out rest, HV.out, IntKind.wrap_u16]
    simp
  by_cases h3 : k = 3
  · subst h3
    have HP : Hid (putF ⟨3, N, T, b⟩ = leB (N % 4294967296) 4) := rfl
    have hl1 : (((putF ⟨3, N, T, b⟩).length : Nat) : Int) = 4 := by rw [HP.out]; rfl
    have HV : Hid (leV (putF ⟨3, N, T, b⟩) = N % 4294967296) := by
      show _ = _
      rw [HP.out]
      first | (rw [leV_leB _ (by omega)]; omega) | simp [leV]
    have HT : Hid (∀ rest, takeF (putF ⟨3, N, T, b⟩ ++ rest) 0 4 = (putF ⟨3, N, T, b⟩, rest, 0)) := fun rest => takeF_hit _ rest _ hl1.symm
    rw [hl1]
    have cN : (w.alloc (.cells #[.int .i64 3, .int .u64 N, .int .i64 T, .slice bo b.length cap] 55)).cell? ⟨w.heap.size, 1, none⟩ = some (.int .u64 N) := by
      rw [cell_of_row _ _ 1 _ 55 (0, 0) (heap_alloc_new w _)]; rfl
    obtain ⟨P, hP⟩ : ∃ P, putF ⟨3, N, T, b⟩ = P := ⟨_, rfl⟩
    rw [hP] at HV HT ⊢
    clear HP hP hl1
    go_enter Try.func36, Try.ntmps36
    go_wp2
    go_region_held3 (fun w' => w'.cell? ⟨w.heap.size, 1, none⟩ = some (.int .u64 N)) (first | exact cN | assumption | go_keep) ((go_at_call 16; refine (rfour_any b0 xs e _ ?_ hX).mono ?_; exact HR.out _ _; rintro r w1 ⟨rfl, hR1, hg1⟩; have hk1 := hg1.cell (a := ⟨w.heap.size, 1, none⟩) (v := .int .u64 N) cN (by simp; omega)))
    go_wp2
    go_ret
    refine ⟨_, rfl, hR1, grown_trans (grown_trans (HG.out _ _) (grown_drew _ _)) hg1, fun rest he hx => ?_⟩
    rw [he, hx, HT.out rest, HV.out, IntKind.wrap_u32']
    simp
  by_cases h4 : k = 4
  · subst h4
    have HP : Hid (putF ⟨4, N, T, b⟩ = leB N 8) := rfl
    have hl1 : (((putF ⟨4, N, T, b⟩).length : Nat) : Int) = 8 := by rw [HP.out]; rfl
    have HV : Hid (leV (putF ⟨4, N, T, b⟩) = N) := by
      show _ = _
      rw [HP.out]
      first | (rw [leV_leB _ (by omega)]; omega) | simp [leV]
    have HT : Hid (∀ rest, takeF (putF ⟨4, N, T, b⟩ ++ rest) 0 8 = (putF ⟨4, N, T, b⟩, rest, 0)) := fun rest => takeF_hit _ rest _ hl1.symm
    rw [hl1]
    have cN : (w.alloc (.cells #[.int .i64 4, .int .u64 N, .int .i64 T, .slice bo b.length cap] 55)).cell? ⟨w.heap.size, 1, none⟩ = some (.int .u64 N) := by
      rw [cell_of_row _ _ 1 _ 55 (0, 0) (heap_alloc_new w _)]; rfl
    obtain ⟨P, hP⟩ : ∃ P, putF ⟨4, N, T, b⟩ = P := ⟨_, rfl⟩
    rw [hP] at HV HT ⊢
    clear HP hP hl1
    go_enter Try.func36, Try.ntmps36
    go_wp2
    go_region_held3 (fun w' => w'.cell? ⟨w.heap.size, 1, none⟩ = some (.int .u64 N)) (first | exact cN | assumption | go_keep) ((go_at_call 17; refine (reight_any b0 xs e _ ?_ hX).mono ?_; exact HR.out _ _; rintro r w1 ⟨rfl, hR1, hg1⟩; have hk1 := hg1.cell (a := ⟨w.heap.size, 1, none⟩) (v := .int .u64 N) cN (by simp; omega)))
    go_wp2
    go_ret
    refine ⟨_, rfl, hR1, grown_trans (grown_trans (HG.out _ _) (grown_drew _ _)) hg1, fun rest he hx => ?_⟩
    rw [he, hx, HT.out rest, HV.out]
    simp
  by_cases h5 : k = 5
  · subst h5
    have HT : Hid (∀ rest, takeF (b ++ rest) 0 b.length = (b, rest, 0)) := fun rest => takeF_hit _ rest _ rfl
    have hp5 : putF ⟨5, N, T, b⟩ = b := rfl
    rw [hp5]
    obtain ⟨n, hn⟩ : ∃ n, b.length = n := ⟨_, rfl⟩
    rw [hn] at HT hbl ⊢
    obtain ⟨⟨G, R, E⟩, hTk⟩ : ∃ p, takeF xs e n = p := ⟨_, rfl⟩
    have hgl2 : G.length ≤ xs.length := by
      have := takeF_given xs e n
      have h2 : (takeF xs e n).1.length ≤ xs.length := by
        unfold takeF
        repeat (first | (split) | (simp; omega) | simp)
      rw [hTk] at h2; exact h2
    have HX : Hid (∀ rest, e = 0 → xs = b ++ rest → G = b) := fun rest he hx => by
      have := HT.out rest
      rw [he, hx] at hTk
      rw [this] at hTk
      exact (congrArg Prod.fst hTk).symm
    have HK : Hid (∀ w', RdAt w' b0 xs e → Calls Try.prog 18 #[.pointer (some ⟨b0, 0, none⟩), .int .i64 n] w' fun r w'' => ∃ v, r = .returned v ∧ w''.ownsRow w'.heap.size 5 1 v G.length (G.map (Value.int .u8)) ∧ RdAt w'' b0 R E ∧ w'.grownBy w'' (some b0)) := fun w' hR => by
      have := take_any b0 xs e n w' hR (by omega) (by omega) (by omega)
      rw [hTk] at this
      exact this
    rw [hTk]
    have Hn := hide hn
    have cB : (w.alloc (.cells #[.int .i64 5, .int .u64 N, .int .i64 T, .slice bo n cap] 55)).cell? ⟨w.heap.size, 3, none⟩ = some (.slice bo n cap) := by
      rw [cell_of_row _ _ 3 _ 55 (0, 0) (heap_alloc_new w _)]; rfl
    clear hn hTk hp5
    go_enter Try.func36, Try.ntmps36
    go_wp2
    go_region_held3 (fun w' => w'.cell? ⟨w.heap.size, 3, none⟩ = some (.slice bo n cap)) (first | exact cB | assumption | go_keep) ((first | (go_at_call 18; refine (HK.out _ ?_).mono ?_; exact HR.out _ _; rintro r w1 ⟨v, rfl, hown, hR1, hg1⟩; obtain ⟨ao', cap', rfl, hl', hnc', hcm', hat', hrest'⟩ := own_at hown; have hk1 := hg1.cell (a := ⟨w.heap.size, 3, none⟩) (v := .slice bo n cap) cB (by simp; omega); have hbat := at_kept HB.out.1.1 HB.out.2 (grown_trans (World.grownBy_alloc w (.cells #[.int .i64 5, .int .u64 N, .int .i64 T, .slice bo n cap] 55) (some b0)) (grown_trans (grown_drew _ _) hg1)); have H1 := hide (And.intro hat' (And.intro hbat (And.intro hR1 hg1))); clear hown hl' hnc' hcm' hat' hrest' hR1 hg1 hbat) | (go_at_call 30; refine (same_gen _ _ G.length n _ _ G b _ rfl Hn.out H1.out.1 H1.out.2.1 (by omega)).mono ?_; rintro r w2 ⟨res, rfl, hg2, hres⟩; have hk2 := hg2.cell hk1 (by simp))))
    go_wp2
    go_ret
    exact ⟨_, rfl, H1.out.2.2.1.kept hg2 (by simp) (NoBytes.none _), grown_trans (grown_trans (grown_trans (HG.out _ _) (grown_drew _ _)) H1.out.2.2.2) (grown_none hg2 _), fun rest he hx => hres (HX.out rest he hx)⟩
  have HP : Hid (putF ⟨k, N, T, b⟩ = []) := by show _ = _; simp [putF, h1, h2, h3, h4, h5]
  have HT : Hid ((takeF xs e (putF ⟨k, N, T, b⟩).length).2 = (xs, e)) := by show _ = _; rw [HP.out]; exact takeF_zero xs e
  have e1 : (k == 1) = false := beq_eq_false_iff_ne.2 h1
  have e2 : (k == 2) = false := beq_eq_false_iff_ne.2 h2
  have e3 : (k == 3) = false := beq_eq_false_iff_ne.2 h3
  have e4 : (k == 4) = false := beq_eq_false_iff_ne.2 h4
  have e5 : (k == 5) = false := beq_eq_false_iff_ne.2 h5
  rw [HT.out]
  go_enter Try.func36, Try.ntmps36
  go_wp2
  go_ret
  exact ⟨_, rfl, HR.out _ _, HG.out _ _, fun _ _ _ => rfl⟩
end Go.Proofs.Ytckmghagfaecmaa
