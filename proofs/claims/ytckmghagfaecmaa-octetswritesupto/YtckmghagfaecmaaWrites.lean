/- OctetsWrites' walk, of a script whose bytes are few enough to be laid into one row. -/
import Derived.Test.YtckmghagfaecmaaRefNum
import Derived.Test.YtckmghagfaecmaaBack
namespace Go.Proofs.Ytckmghagfaecmaa
open Go.RowKit

theorem own_type {w : World} {base n : Nat} {v : Value} {xs : List Value} (h : w.ownsRow base 5 1 v n xs) {g : Nat} {c : Array Value} {t : TypeId} {fr : Nat × Nat} (hg : w.heap[g]? = some (.cells c t fr)) (ht : t ≠ 5) : v.ownBlock ≠ some g := by
  intro e
  rcases h.2 with ⟨rfl, _⟩ | ⟨g', cap, cur, rfl, _, hc, _⟩
  · simp [Value.ownBlock] at e
  · simp [Value.ownBlock] at e
    subst e
    rw [hc] at hg
    simp at hg
    exact ht hg.2.1.symm
theorem own_noBlock {w : World} {base n : Nat} {v : Value} {xs : List Value} (h : w.ownsRow base 5 1 v n xs) : NoBlock w v.ownBlock := by
  rcases h.2 with ⟨rfl, _⟩ | ⟨g', cap, cur, rfl, _, hc, _⟩
  · exact NoBlock.none _
  · exact NoBlock.of hc (by decide)

/-- What holds at each round's head: the Writer at block g and the row v hold the same bytes. -/
structure Both (w wr : World) (g : Nat) (v : Value) (D : List Int) : Prop where
  ofW : WrAt wr g D
  own : wr.ownsRow w.heap.size 5 1 v D.length (D.map (Value.int .u8))
  lo : w.heap.size ≤ g
  grown : w.grownBy wr none
theorem Both.ne {w wr : World} {g : Nat} {v : Value} {D : List Int} (h : Both w wr g v D) : v.ownBlock ≠ some g := by
  obtain ⟨u, cs, op, hb, _⟩ := h.ofW
  exact own_type h.own hb (by decide)
/-- Bytes go behind both. -/
theorem Both.put {w wr w1 w2 : World} {g : Nat} {v v' : Value} {D X : List Int} (h : Both w wr g v D) (h1 : WrAt w1 g (D ++ X)) (hg1 : wr.grownBy w1 (some g)) (h2 : w2.ownsRow w.heap.size 5 1 v' (D.length + X.length) (D.map (Value.int .u8) ++ X.map (Value.int .u8))) (hg2 : w1.grownBy w2 v.ownBlock) : Both w w2 g v' (D ++ X) := by
  have ho1 := h.own.kept hg1 (by cases hv : v.ownBlock with | none => simp | some k => right; have := h.ne; rw [hv] at this; exact this)
  refine ⟨h1.kept hg2 h.ne (own_noBlock ho1), by simpa using h2, h.lo, grown_then (grown_then h.grown hg1 (fun k e => by cases e; exact Or.inl h.lo)) hg2 (fun k e => Or.inl (h.own.lt k e).1)⟩

theorem Both.kept {w wr w1 : World} {g : Nat} {v : Value} {D : List Int} (h : Both w wr g v D) (hg : wr.grownBy w1 none) : Both w w1 g v D :=
  ⟨h.ofW.kept hg (by simp) (NoBlock.none _), h.own.kept hg (by cases hv : v.ownBlock <;> simp), h.lo, grown_trans h.grown hg⟩
/-- What was lent is written over: both stand. -/
theorem Both.over {w w4 w5 : World} {g gL : Nat} {v : Value} {D : List Int} {c : Array Value} (h : Both w w4 g v D) (hg : w4.grownBy w5 (some gL)) (hv : v.ownBlock ≠ some gL) (hne : gL ≠ g) (hc : w4.heap[gL]? = some (.cells c 5 (0, 0))) (hlo : w.heap.size ≤ gL) : Both w w5 g v D :=
  ⟨h.ofW.kept hg (by simpa using hne) (NoBlock.of hc (by decide)), h.own.kept hg (Or.inr hv), h.lo, grown_then h.grown hg (fun k e => by cases e; exact Or.inl hlo)⟩
theorem at_left {w : World} {ao : Option Addr} {xs ys : List Int} (h : At w ao (xs ++ ys)) : At w ao xs := fun j u hu => h j u (by rw [List.getElem?_append_left (List.getElem?_eq_some_iff.1 hu).1, hu])
theorem size53 : (Try.prog.info? 53).map (·.size) = some 66 := by kernel_rfl
theorem wr_cells {w : World} {g : Nat} {D : List Int} (h : WrAt w g D) : ∃ row, w.heap[g]? = some (.cells row.toArray 53 (0, 0)) ∧ row.length = 66 ∧ w.rangeAt g 0 row ∧ ∀ u ∈ row, u.oneCell' = true := by
  obtain ⟨v, cs, op, hb, hl, hc, he⟩ := h
  refine ⟨_, hb, by rw [wrow_length, hl], ?_, ?_⟩
  · intro j u hu
    rw [Nat.zero_add, cell_row hb]; exact hu
  · intro u hu
    obtain ⟨p, rfl⟩ := hc.ptr
    simp only [wrow, List.mem_cons, List.mem_append, List.mem_map, List.not_mem_nil, or_false] at hu
    rcases hu with rfl | ⟨x, _, rfl⟩ | rfl <;> rfl
theorem there_new (w : World) (C : Array Value) (t : TypeId) (n : Nat) (h : C.size = n) : (w.alloc (.cells C t)).there w.heap.size 0 n := by
  intro j hj
  have h1 := heap_alloc_new w (.cells C t)
  refine ⟨?_, free_row h1 _⟩
  rw [Nat.zero_add, cell_of_row _ _ j C t (0, 0) h1]
  simp; omega
theorem or_ne {v : Value} {g : Nat} (h : v.ownBlock ≠ some g) : v.ownBlock = none ∨ v.ownBlock ≠ some g := Or.inr h
theorem or_none (v : Value) : v.ownBlock = none ∨ v.ownBlock ≠ none := by cases v.ownBlock <;> simp
theorem leB_one (N : Int) : leB N 1 = [N % 256] := by simp [leB]
theorem leB_two (N : Int) : leB N 2 = leB (N % 65536) 2 := by simp [leB, List.range_succ]; omega
theorem leB_four (N : Int) : leB N 4 = leB (N % 4294967296) 4 := by simp [leB, List.range_succ]; omega

set_option maxHeartbeats 4000000 in
set_option maxRecDepth 100000 in
theorem writes_any (ao : Option Addr) (n cap : Nat) (os : List OpD) (w : World) (hn : os.length = n) (hat : OpsAt w ao os) (hok : ∀ o ∈ os, OpOk o) (hb : ∀ o ∈ os, o.b.length ≤ 1000000000) (hnb : n ≤ 1000000000) (hS : (putAll (os.take 2000)).length ≤ 1000000000) :
    Calls Try.prog 4 #[.slice ao n cap] w fun e w' => e = .returned (.bool true) ∧ w.grownBy w' none := by
  obtain ⟨ps, hps⟩ : ∃ ps, ps = os.take 2000 := ⟨_, rfl⟩
  obtain ⟨m, hm⟩ : ∃ m, m = ps.length := ⟨_, rfl⟩
  have hmn : m ≤ n := by rw [hm, hps]; simp; omega
  have hm2 : m ≤ 2000 := by rw [hm, hps]; simp; omega
  have hm3 : m < n → m = 2000 := by intro h; rw [hm, hps] at h ⊢; simp at h ⊢; omega
  have hps2 : ∀ j o, ps[j]? = some o → ∃ blk off bo cap, ao = some ⟨blk, off, none⟩ ∧ OpAt w blk (off + j * 4) o bo cap := by
    intro j o ho
    refine hat j o ?_
    rw [hps, List.getElem?_take] at ho
    split at ho
    · exact ho
    · cases ho
  have hpok : ∀ o ∈ ps, OpOk o := fun o ho => hok o (by rw [hps] at ho; exact List.mem_of_mem_take ho)
  have hpb : ∀ o ∈ ps, o.b.length ≤ 1000000000 := fun o ho => hb o (by rw [hps] at ho; exact List.mem_of_mem_take ho)
  rw [← hps] at hS
  have H := hide (And.intro hm (And.intro hps2 (And.intro hpok (And.intro hpb hS))))
  clear hps hm hps2 hpok hpb hS hn hat hok hb os
  go_enter Try.func4, Try.ntmps4
  go_wp2
  go_loopg [3, 4, 5] m (fun k p v i wr => ∃ (j g : Nat), k + j = m ∧ p = .pointer (some ⟨g, 0, none⟩) ∧ i = .int .i64 j ∧ Both w wr g v (putAll (ps.take j)))
  case atStart => exact ⟨0, w.heap.size, by omega, rfl, rfl, wr_new w _ (by kernel_rfl), (World.ownsRow_nil _ _ _ _), Nat.le_refl _, World.grownBy_alloc w _ _⟩
  case round =>
    obtain ⟨j, g, hkj, rfl, rfl, hbo⟩ := hrel
    obtain ⟨ao', cap', rfl, hvr⟩ := own_at hbo.own
    clear hvr
    by_cases hk : 0 < gk
    · obtain ⟨hm, hps2, hpok, hpb, hS⟩ := H.out
      have hj : j < ps.length := by omega
      obtain ⟨blk, off, bo, bcap, rfl, hop⟩ := hps2 j ps[j] (by simp [hj])
      have hop' := hop.kept hbo.grown
      have hjn : (j : Int) < (n : Int) := by omega
      have hj2 : (j : Int) < 2000 := by omega
      have hj0 : (0 : Int) ≤ (j : Int) := by omega
      obtain ⟨c0, c1, c2, c3, cb, cok⟩ := hop'
      have hlen := putAll_take ps j
      have hbl := hpb ps[j] (by simp)
      have hsn : Hid (putAll (ps.take (j + 1)) = putAll (ps.take j) ++ putF ps[j]) := by show _ = _; rw [List.take_succ_eq_append_getElem hj, putAll_snoc]
      generalize hD : putAll (ps.take j) = D at *
      generalize ps[j] = o at *
      have hDl : D.length ≤ 1000000000 := by omega
      have Hoff := hide (And.intro (at_off hop.b.1 hbo.lo) (fun k (hk : (Value.slice ao' D.length cap').ownBlock = some k) => at_off hop.b.1 (hbo.own.lt k hk).1))
      have HB := hide (And.intro hbo (And.intro cb cok))
      clear hm hps2 hpok hpb hS hj hop hlen hbo cb cok hD
      obtain ⟨kind, N, T, b⟩ := o
      simp only at c0 c1 c2 c3 hbl
      have hn0 : 0 ≤ N := HB.out.2.2.n0
      have hn1 : N < 18446744073709551616 := HB.out.2.2.n1
      by_cases h1 : kind = 1
      · subst h1
        have cN : (wr.alloc (.cells #[.int .i64 1, .int .u64 N, .int .i64 T, .slice bo b.length bcap] 55)).cell? ⟨wr.heap.size, 1, none⟩ = some (.int .u64 N) := by
          rw [cell_of_row _ _ 1 _ 55 (0, 0) (heap_alloc_new wr _)]; rfl
        have HB0 := hide (HB.out.1.kept (World.grownBy_alloc wr (.cells #[.int .i64 1, .int .u64 N, .int .i64 T, .slice bo b.length bcap] 55) none))
        have hgl : g < wr.heap.size := HB.out.1.ofW.lt
        have H9 : Hid (putF ⟨1, N, T, b⟩ = leB N 1) := (leB_one N).symm
        go_wp2_with fail
        refine (byte_any g D (N % 256) _ HB0.out.ofW (by omega)).mono ?_
        rintro e w1 ⟨rfl, hw1, hg1⟩
        have cN1 := hg1.cell cN (by simp; omega)
        go_wp2_with fail
        refine (refnum_any N 1 1 w1 rfl (by omega) hn0 hn1).mono ?_
        rintro e w2 ⟨v2, rfl, hown2, hg2⟩
        obtain ⟨ao2, cap2, rfl, hl2, hnc2, hcm2, hat2, hnil2, h52⟩ := own_at hown2
        have hown1' := (HB0.out.own.kept hg1 (or_ne HB0.out.ne)).kept hg2 (or_none _)
        have hsz : w.heap.size ≤ w2.heap.size := Nat.le_trans HB0.out.grown.size (Nat.le_trans hg1.size hg2.size)
        have HK := hide (And.intro hw1 (And.intro hg1 (And.intro hg2 (And.intro hat2 (And.intro hnil2 hown1')))))
        clear hw1 hg1 hg2 hat2 hnil2 hown1' hown2 h52 hl2 hnc2 hcm2 cN1
        go_wp2_with (at_builtin; refine wpList_append_at rfl (.tmp 34) (.tmp 37) rfl w.heap.size (.slice ao' D.length cap') D.length (D.map (Value.int .u8)) rfl HK.out.2.2.2.2.2 ao2 1 cap2 (leB N 1) rfl (leB_length N 1) HK.out.2.2.2.1 HK.out.2.2.2.2.1 (by omega) hsz ?_)
        intro v3 w3 hown3 hg3
        obtain ⟨hw1, hg1, hg2, _, _, _⟩ := HK.out
        have hput : Both w w3 g v3 (D ++ leB N 1) := HB0.out.put (w1 := w2) ((show WrAt w1 g (D ++ leB N 1) by rw [leB_one N]; exact hw1).kept hg2 (by simp) (NoBlock.none _)) (grown_trans hg1 (grown_none hg2 _)) (by rw [leB_length]; exact hown3) hg3
        obtain ⟨ao3, cap3, rfl, hr3⟩ := own_at hput.own
        have HF := hide hput
        clear hr3 hown3 hg3 hput HK hw1 hg1 hg2 cN
        go_wp2_with fail
        refine (len_any g _ _ HF.out.ofW).mono ?_
        rintro e w4 ⟨rfl, rfl⟩
        go_wp2
        go_roundg (gk - 1)
        case measure => omega
        case rel => exact ⟨j + 1, g, by omega, rfl, by go_num, by rw [hsn.out, H9.out]; have h9 := HF.out; simp only [List.length_append] at h9 ⊢; exact h9⟩
      by_cases h2 : kind = 2
      · subst h2
        have cN : (wr.alloc (.cells #[.int .i64 2, .int .u64 N, .int .i64 T, .slice bo b.length bcap] 55)).cell? ⟨wr.heap.size, 1, none⟩ = some (.int .u64 N) := by
          rw [cell_of_row _ _ 1 _ 55 (0, 0) (heap_alloc_new wr _)]; rfl
        have HB0 := hide (HB.out.1.kept (World.grownBy_alloc wr (.cells #[.int .i64 2, .int .u64 N, .int .i64 T, .slice bo b.length bcap] 55) none))
        have hgl : g < wr.heap.size := HB.out.1.ofW.lt
        have H9 : Hid (putF ⟨2, N, T, b⟩ = leB N 2) := (leB_two N).symm
        go_wp2_with fail
        refine (two_any g D (N % 65536) _ HB0.out.ofW (by omega) (by omega) (by omega)).mono ?_
        rintro e w1 ⟨rfl, hw1, hg1⟩
        have cN1 := hg1.cell cN (by simp; omega)
        go_wp2_with fail
        refine (refnum_any N 2 2 w1 rfl (by omega) hn0 hn1).mono ?_
        rintro e w2 ⟨v2, rfl, hown2, hg2⟩
        obtain ⟨ao2, cap2, rfl, hl2, hnc2, hcm2, hat2, hnil2, h52⟩ := own_at hown2
        have hown1' := (HB0.out.own.kept hg1 (or_ne HB0.out.ne)).kept hg2 (or_none _)
        have hsz : w.heap.size ≤ w2.heap.size := Nat.le_trans HB0.out.grown.size (Nat.le_trans hg1.size hg2.size)
        have HK := hide (And.intro hw1 (And.intro hg1 (And.intro hg2 (And.intro hat2 (And.intro hnil2 hown1')))))
        clear hw1 hg1 hg2 hat2 hnil2 hown1' hown2 h52 hl2 hnc2 hcm2 cN1
        go_wp2_with (at_builtin; refine wpList_append_at rfl (.tmp 46) (.tmp 49) rfl w.heap.size (.slice ao' D.length cap') D.length (D.map (Value.int .u8)) rfl HK.out.2.2.2.2.2 ao2 2 cap2 (leB N 2) rfl (leB_length N 2) HK.out.2.2.2.1 HK.out.2.2.2.2.1 (by omega) hsz ?_)
        intro v3 w3 hown3 hg3
        obtain ⟨hw1, hg1, hg2, _, _, _⟩ := HK.out
        have hput : Both w w3 g v3 (D ++ leB N 2) := HB0.out.put (w1 := w2) ((show WrAt w1 g (D ++ leB N 2) by rw [leB_two N]; exact hw1).kept hg2 (by simp) (NoBlock.none _)) (grown_trans hg1 (grown_none hg2 _)) (by rw [leB_length]; exact hown3) hg3
        obtain ⟨ao3, cap3, rfl, hr3⟩ := own_at hput.own
        have HF := hide hput
        clear hr3 hown3 hg3 hput HK hw1 hg1 hg2 cN
        go_wp2_with fail
        refine (len_any g _ _ HF.out.ofW).mono ?_
        rintro e w4 ⟨rfl, rfl⟩
        go_wp2
        go_roundg (gk - 1)
        case measure => omega
        case rel => exact ⟨j + 1, g, by omega, rfl, by go_num, by rw [hsn.out, H9.out]; have h9 := HF.out; simp only [List.length_append] at h9 ⊢; exact h9⟩
      by_cases h3 : kind = 3
      · subst h3
        have cN : (wr.alloc (.cells #[.int .i64 3, .int .u64 N, .int .i64 T, .slice bo b.length bcap] 55)).cell? ⟨wr.heap.size, 1, none⟩ = some (.int .u64 N) := by
          rw [cell_of_row _ _ 1 _ 55 (0, 0) (heap_alloc_new wr _)]; rfl
        have HB0 := hide (HB.out.1.kept (World.grownBy_alloc wr (.cells #[.int .i64 3, .int .u64 N, .int .i64 T, .slice bo b.length bcap] 55) none))
        have hgl : g < wr.heap.size := HB.out.1.ofW.lt
        have H9 : Hid (putF ⟨3, N, T, b⟩ = leB N 4) := (leB_four N).symm
        go_wp2_with fail
        refine (four_any g D (N % 4294967296) _ HB0.out.ofW (by omega) (by omega) (by omega)).mono ?_
        rintro e w1 ⟨rfl, hw1, hg1⟩
        have cN1 := hg1.cell cN (by simp; omega)
        go_wp2_with fail
        refine (refnum_any N 4 4 w1 rfl (by omega) hn0 hn1).mono ?_
        rintro e w2 ⟨v2, rfl, hown2, hg2⟩
        obtain ⟨ao2, cap2, rfl, hl2, hnc2, hcm2, hat2, hnil2, h52⟩ := own_at hown2
        have hown1' := (HB0.out.own.kept hg1 (or_ne HB0.out.ne)).kept hg2 (or_none _)
        have hsz : w.heap.size ≤ w2.heap.size := Nat.le_trans HB0.out.grown.size (Nat.le_trans hg1.size hg2.size)
        have HK := hide (And.intro hw1 (And.intro hg1 (And.intro hg2 (And.intro hat2 (And.intro hnil2 hown1')))))
        clear hw1 hg1 hg2 hat2 hnil2 hown1' hown2 h52 hl2 hnc2 hcm2 cN1
        go_wp2_with (at_builtin; refine wpList_append_at rfl (.tmp 58) (.tmp 61) rfl w.heap.size (.slice ao' D.length cap') D.length (D.map (Value.int .u8)) rfl HK.out.2.2.2.2.2 ao2 4 cap2 (leB N 4) rfl (leB_length N 4) HK.out.2.2.2.1 HK.out.2.2.2.2.1 (by omega) hsz ?_)
        intro v3 w3 hown3 hg3
        obtain ⟨hw1, hg1, hg2, _, _, _⟩ := HK.out
        have hput : Both w w3 g v3 (D ++ leB N 4) := HB0.out.put (w1 := w2) ((show WrAt w1 g (D ++ leB N 4) by rw [leB_four N]; exact hw1).kept hg2 (by simp) (NoBlock.none _)) (grown_trans hg1 (grown_none hg2 _)) (by rw [leB_length]; exact hown3) hg3
        obtain ⟨ao3, cap3, rfl, hr3⟩ := own_at hput.own
        have HF := hide hput
        clear hr3 hown3 hg3 hput HK hw1 hg1 hg2 cN
        go_wp2_with fail
        refine (len_any g _ _ HF.out.ofW).mono ?_
        rintro e w4 ⟨rfl, rfl⟩
        go_wp2
        go_roundg (gk - 1)
        case measure => omega
        case rel => exact ⟨j + 1, g, by omega, rfl, by go_num, by rw [hsn.out, H9.out]; have h9 := HF.out; simp only [List.length_append] at h9 ⊢; exact h9⟩
      by_cases h4 : kind = 4
      · subst h4
        have cN : (wr.alloc (.cells #[.int .i64 4, .int .u64 N, .int .i64 T, .slice bo b.length bcap] 55)).cell? ⟨wr.heap.size, 1, none⟩ = some (.int .u64 N) := by
          rw [cell_of_row _ _ 1 _ 55 (0, 0) (heap_alloc_new wr _)]; rfl
        have HB0 := hide (HB.out.1.kept (World.grownBy_alloc wr (.cells #[.int .i64 4, .int .u64 N, .int .i64 T, .slice bo b.length bcap] 55) none))
        have hgl : g < wr.heap.size := HB.out.1.ofW.lt
        have H9 : Hid (putF ⟨4, N, T, b⟩ = leB N 8) := rfl
        go_wp2_with fail
        refine (eight_any g D N _ HB0.out.ofW hn0 hn1 (by omega)).mono ?_
        rintro e w1 ⟨rfl, hw1, hg1⟩
        have cN1 := hg1.cell cN (by simp; omega)
        go_wp2_with fail
        refine (refnum_any N 8 8 w1 rfl (by omega) hn0 hn1).mono ?_
        rintro e w2 ⟨v2, rfl, hown2, hg2⟩
        obtain ⟨ao2, cap2, rfl, hl2, hnc2, hcm2, hat2, hnil2, h52⟩ := own_at hown2
        have hown1' := (HB0.out.own.kept hg1 (or_ne HB0.out.ne)).kept hg2 (or_none _)
        have hsz : w.heap.size ≤ w2.heap.size := Nat.le_trans HB0.out.grown.size (Nat.le_trans hg1.size hg2.size)
        have HK := hide (And.intro hw1 (And.intro hg1 (And.intro hg2 (And.intro hat2 (And.intro hnil2 hown1')))))
        clear hw1 hg1 hg2 hat2 hnil2 hown1' hown2 h52 hl2 hnc2 hcm2 cN1
        go_wp2_with (at_builtin; refine wpList_append_at rfl (.tmp 69) (.tmp 72) rfl w.heap.size (.slice ao' D.length cap') D.length (D.map (Value.int .u8)) rfl HK.out.2.2.2.2.2 ao2 8 cap2 (leB N 8) rfl (leB_length N 8) HK.out.2.2.2.1 HK.out.2.2.2.2.1 (by omega) hsz ?_)
        intro v3 w3 hown3 hg3
        obtain ⟨hw1, hg1, hg2, _, _, _⟩ := HK.out
        have hput : Both w w3 g v3 (D ++ leB N 8) := HB0.out.put (w1 := w2) (hw1.kept hg2 (by simp) (NoBlock.none _)) (grown_trans hg1 (grown_none hg2 _)) (by rw [leB_length]; exact hown3) hg3
        obtain ⟨ao3, cap3, rfl, hr3⟩ := own_at hput.own
        have HF := hide hput
        clear hr3 hown3 hg3 hput HK hw1 hg1 hg2 cN
        go_wp2_with fail
        refine (len_any g _ _ HF.out.ofW).mono ?_
        rintro e w4 ⟨rfl, rfl⟩
        go_wp2
        go_roundg (gk - 1)
        case measure => omega
        case rel => exact ⟨j + 1, g, by omega, rfl, by go_num, by rw [hsn.out, H9.out]; have h9 := HF.out; simp only [List.length_append] at h9 ⊢; exact h9⟩
      by_cases h5 : kind = 5
      · subst h5
        have cB : (wr.alloc (.cells #[.int .i64 5, .int .u64 N, .int .i64 T, .slice bo b.length bcap] 55)).cell? ⟨wr.heap.size, 3, none⟩ = some (.slice bo b.length bcap) := by
          rw [cell_of_row _ _ 3 _ 55 (0, 0) (heap_alloc_new wr _)]; rfl
        have HB0 := hide (HB.out.1.kept (World.grownBy_alloc wr (.cells #[.int .i64 5, .int .u64 N, .int .i64 T, .slice bo b.length bcap] 55) none))
        have HA0 := hide (HB.out.2.1.kept (World.grownBy_alloc wr (.cells #[.int .i64 5, .int .u64 N, .int .i64 T, .slice bo b.length bcap] 55) none))
        have hgl : g < wr.heap.size := HB.out.1.ofW.lt
        have hnilb : bo = none → b.length = 0 ∧ bcap = 0 := fun e => by have h6 := HB.out.2.1.2; simp only at h6; have := h6.2.2 e; omega
        go_wp2_with fail
        refine (lent_any bo b.length bcap b _ rfl HA0.out.1 hnilb (by omega)).mono ?_
        rintro e w1 ⟨v1, rfl, hlent, hg1⟩
        obtain ⟨gL, capL, rfl, hL1, hL2, hL3, hL4, hLat, cur, hLc, hLs⟩ := hlent.all
        have cB1 := hg1.cell cB (by simp)
        have hgLg : gL ≠ g := by simp at hL3; omega
        have hgLx : gL ≠ wr.heap.size := by simp at hL3; omega
        have HL := hide (And.intro hg1 (And.intro hLat (And.intro hLc hLs)))
        have hgLlo : w.heap.size ≤ gL := by have := HB0.out.grown.size; simp at this hL3; omega
        have hL3' : wr.heap.size < gL := by simp at hL3; omega
        clear hg1 hLat hLc hLs hlent hL3 cB
        go_wp2_with fail
        refine (put_any g b.length D b (some ⟨gL, 0, none⟩) capL _ (HB0.out.ofW.kept HL.out.1 (by simp) (NoBlock.none _)) rfl (at_left HL.out.2.1) (fun a ha => by cases ha; exact hgLg) (by omega) hL2 (by omega)).mono ?_
        rintro e w2 ⟨rfl, hw2, hg2⟩
        have cB2 := hg2.cell cB1 (by simp; omega)
        have hown2 := (HB0.out.own.kept HL.out.1 (or_none _)).kept hg2 (or_ne HB0.out.ne)
        have hat2 := at_kept (HA0.out.1.kept HL.out.1 (by simp)) Hoff.out.1 hg2
        have hsz2 : w.heap.size ≤ w2.heap.size := Nat.le_trans HB0.out.grown.size (Nat.le_trans HL.out.1.size hg2.size)
        have hgL2 : gL < w2.heap.size := Nat.lt_of_lt_of_le hL4 hg2.size
        have HK := hide (And.intro hw2 (And.intro hg2 (And.intro hown2 hat2)))
        clear hw2 hg2 hown2 hat2 cB1
        go_wp2_with (at_builtin; refine wpList_append_lie rfl (.tmp 82) (.tmp 84) rfl w.heap.size (.slice ao' D.length cap') D.length (D.map (Value.int .u8)) rfl HK.out.2.2.1 bo b.length bcap b rfl rfl HK.out.2.2.2 hnilb (by omega) hsz2 ?_)
        intro v3 w3 hown3 hg3 hlie
        obtain ⟨hw2, hg2, hown2, hat2⟩ := HK.out
        have hput : Both w w3 g v3 (D ++ b) := HB0.out.put (w1 := w2) hw2 (grown_trans (grown_none HL.out.1 _) hg2) hown3 hg3
        have hvne : (Value.slice ao' D.length cap').ownBlock ≠ some gL := fun e => by have := (HB.out.1.own.lt gL e).2; omega
        have hv3 : v3.ownBlock ≠ some gL := fun e => by
          rcases hlie with h | h
          · exact hvne (h.symm.trans e)
          · rw [e] at h; simp at h; omega
        obtain ⟨ao3, cap3, rfl, hr3⟩ := own_at hput.own
        have cB3 := hg3.cell cB2 (fun e => by have := (HB.out.1.own.lt wr.heap.size e.symm).2; omega)
        have hLat3 := (HL.out.2.1.kept hg2 (by intro a ha; cases ha; simpa using hgLg)).kept hg3 (by intro a ha; cases ha; exact fun e => hvne e.symm)
        have hLc3 := (hg3.block gL hgL2 (fun e => hvne e.symm)).trans ((hg2.block gL hL4 (by simpa using hgLg)).trans HL.out.2.2.1)
        have hat3 : At w3 bo b := by
          by_cases hb0 : b = []
          · subst hb0; exact At.nil _ _
          · exact hat2.kept hg3 (fun a ha e => by
              have := Hoff.out.2 a.block e.symm hb0 a ha
              exact this rfl)
        have HF := hide (And.intro hput (And.intro hLat3 (And.intro hLc3 hat3)))
        clear hr3 hown3 hg3 hput HK hw2 hg2 hown2 hat2 hLat3 hLc3 hat3 cB2 hlie
        go_wp2_with fail
        refine (kept_any gL capL bo b.length bcap b _ rfl hL1 hL2 HF.out.2.1 HF.out.2.2.2 (by omega)).mono ?_
        rintro e w4 ⟨rfl, hg4⟩
        have HF4 := hide (And.intro (HF.out.1.kept hg4) ((hg4.block gL (row_lt HF.out.2.2.1) (by simp)).trans HF.out.2.2.1))
        clear hg4
        go_wp2_with fail
        refine (over_any gL capL b.length _ ⟨cur, HF4.out.2, HL.out.2.2.2⟩ hL1 hL2 (by omega)).mono ?_
        rintro e w5 ⟨rfl, hg5⟩
        have HF5 := hide (HF4.out.1.over hg5 hv3 hgLg HF4.out.2 hgLlo)
        clear hg5 HF HF4 cB3
        go_wp2_with fail
        refine (len_any g _ _ HF5.out.ofW).mono ?_
        rintro e w6 ⟨rfl, rfl⟩
        go_wp2
        go_roundg (gk - 1)
        case measure => omega
        case rel => exact ⟨j + 1, g, by omega, rfl, by go_num, by rw [hsn.out]; show Both w _ g _ (D ++ b); have h9 := HF5.out; simp only [List.length_append] at h9 ⊢; exact h9⟩
      by_cases h6 : kind = 6
      · subst h6
        have HB0 := hide (HB.out.1.kept (World.grownBy_alloc wr (.cells #[.int .i64 6, .int .u64 N, .int .i64 T, .slice bo b.length bcap] 55) none))
        have H9 : Hid (putF ⟨6, N, T, b⟩ = []) := rfl
        go_wp2_with fail
        refine (out_any g D _ HB0.out.ofW (by omega)).mono ?_
        rintro e w1 ⟨rfl, hrow, hg1⟩
        have hb1 := HB0.out.kept hg1
        rw [show (wr.alloc (.cells #[.int .i64 6, .int .u64 N, .int .i64 T, .slice bo b.length bcap] 55)).heap.size = wr.heap.size + 1 from by simp] at hrow
        obtain ⟨ao2, cap2, hv2, hl2, hnc2, hcm2, hat2, hnil2, h52⟩ := own_at hb1.own
        cases hv2
        have HF := hide (And.intro hb1 (And.intro (at_row hrow) hat2))
        clear hrow hg1 hb1 hat2 hl2 hnc2 hcm2 hnil2 h52
        go_wp2_with fail
        refine (same_eq _ _ D.length _ _ D _ rfl HF.out.2.1 HF.out.2.2 (by omega)).mono ?_
        rintro e w2 ⟨rfl, hg2⟩
        have HF2 := hide (HF.out.1.kept hg2)
        clear hg2 HF
        go_wp2_with fail
        refine (len_any g _ _ HF2.out.ofW).mono ?_
        rintro e w6 ⟨rfl, rfl⟩
        go_wp2
        go_roundg (gk - 1)
        case measure => omega
        case rel => exact ⟨j + 1, g, by omega, rfl, by go_num, by rw [hsn.out, H9.out, List.append_nil]; exact HF2.out⟩
      by_cases h7 : kind = 7
      · subst h7
        have H9 : Hid (putF ⟨7, N, T, b⟩ = []) := rfl
        have HB0 := hide (HB.out.1.kept (World.grownBy_alloc wr (.cells #[.int .i64 7, .int .u64 N, .int .i64 T, .slice bo b.length bcap] 55) none))
        have hgl : g < wr.heap.size := HB.out.1.ofW.lt
        obtain ⟨row, hrow, hrl, hrng, hone⟩ := wr_cells HB0.out.ofW
        have hth := there_new (wr.alloc (.cells #[.int .i64 7, .int .u64 N, .int .i64 T, .slice bo b.length bcap] 55)) Try.zeroCells53 53 66 (by kernel_rfl)
        have hsz1 : (wr.alloc (.cells #[.int .i64 7, .int .u64 N, .int .i64 T, .slice bo b.length bcap] 55)).heap.size = wr.heap.size + 1 := by simp
        have hi53 : (Try.prog.info? 53).map (·.size) = some row.length := by rw [hrl]; exact size53
        obtain ⟨t1, t2, t3⟩ := twin_wr (C := Try.zeroCells53) HB0.out.ofW hrow (by rw [hrl]; kernel_rfl)
        rw [hsz1] at hth t1 t2 t3
        have HT := hide (And.intro t1 (And.intro t2 t3))
        have hth2 : ((wr.alloc (.cells #[.int .i64 7, .int .u64 N, .int .i64 T, .slice bo b.length bcap] 55)).alloc (.cells Try.zeroCells53 53)).there (wr.heap.size + 1) 0 row.toArray.size := by simpa [hrl] using hth
        have hi53' : (Try.prog.info? 53).map (·.size) = some row.toArray.size := by simpa using hi53
        have HM := hide (And.intro hrng (And.intro hi53 (And.intro hth2 (And.intro hi53' (all_oneCell_toArray hone)))))
        clear t1 t2 t3 hth hth2 hi53 hi53' hrng hone hrow hsz1
        go_wp2_with (first | (refine wpList_load_mid rfl 53 (.tmp 103) rfl g 0 rfl row _ HM.out.1 Try.underlying53 rfl HM.out.2.1 ?_) | (refine wpList_store_mid rfl 53 (.tmp 8) (.tmp 104) rfl (wr.heap.size + 1) 0 row.toArray rfl rfl HM.out.2.2.1 HM.out.2.2.2.1 HM.out.2.2.2.2 ?_) | fail)
        refine (byte_any g D 99 _ HT.out.2.1 (by omega)).mono ?_
        rintro e w1 ⟨rfl, hw1, hg1⟩
        obtain ⟨t1, t2, t3⟩ := HT.out
        have hb0 := HB0.out.kept t3
        have HF := hide (Both.mk (t1.kept hg1 (by simp; omega) t2.noBlock) (hb0.own.kept hg1 (or_ne hb0.ne)) (by have := HB.out.1.grown.size; omega) (grown_then hb0.grown hg1 (fun k e => by cases e; exact Or.inl hb0.lo)))
        clear hw1 hg1 t1 t2 t3 hb0 HT HM
        go_wp2_with fail
        refine (len_any (wr.heap.size + 1) D _ HF.out.ofW).mono ?_
        rintro e w2 ⟨rfl, rfl⟩
        go_wp2
        go_roundg (gk - 1)
        case measure => omega
        case rel => exact ⟨j + 1, wr.heap.size + 1, by omega, rfl, by go_num, by rw [hsn.out, H9.out, List.append_nil]; exact HF.out⟩
      have H9 : Hid (putF ⟨kind, N, T, b⟩ = []) := by show _ = _; simp [putF, h1, h2, h3, h4, h5]
      have HB0 := hide (HB.out.1.kept (World.grownBy_alloc wr (.cells #[.int .i64 kind, .int .u64 N, .int .i64 T, .slice bo b.length bcap] 55) none))
      have e1 : (kind == 1) = false := beq_eq_false_iff_ne.2 h1
      have e2 : (kind == 2) = false := beq_eq_false_iff_ne.2 h2
      have e3 : (kind == 3) = false := beq_eq_false_iff_ne.2 h3
      have e4 : (kind == 4) = false := beq_eq_false_iff_ne.2 h4
      have e5 : (kind == 5) = false := beq_eq_false_iff_ne.2 h5
      have e6 : (kind == 6) = false := beq_eq_false_iff_ne.2 h6
      have e7 : (kind == 7) = false := beq_eq_false_iff_ne.2 h7
      go_wp2_with fail
      refine (len_any g _ _ HB0.out.ofW).mono ?_
      rintro e w1 ⟨rfl, hw1⟩
      have HF2 : Hid (Both w w1 g (.slice ao' D.length cap') D) := by show Both _ _ _ _ _; rw [hw1]; exact HB0.out
      clear hw1
      go_wp2
      go_roundg (gk - 1)
      case measure => omega
      case rel => exact ⟨j + 1, g, by omega, rfl, by go_num, by rw [hsn.out, H9.out, List.append_nil]; exact HF2.out⟩
    · have hj : j = m := by omega
      subst hj
      have hX : Hid (ps.take j = ps) := by show _ = _; rw [H.out.1]; exact List.take_length
      rw [hX.out] at hbo
      have hlS : (putAll ps).length ≤ 1000000000 := H.out.2.2.2.2
      have hlen0 : (putAll (ps.take j)).length = (putAll ps).length := by rw [hX.out]
      rw [hX.out]
      generalize putAll ps = D at *
      have HB := hide hbo
      clear hbo hX hlen0
      rcases (show ((j : Int) < (n : Int) ∧ (2000 : Int) ≤ (j : Int)) ∨ (n : Int) ≤ (j : Int) from by omega) with hcase | hcase
      all_goals
        go_wp2_with fail
        refine (out_any g D _ HB.out.ofW (by omega)).mono ?_
        rintro e w1 ⟨rfl, hrow, hg1⟩
        have hb1 := HB.out.kept hg1
        obtain ⟨ao2, cap2, hv2, hl2, hnc2, hcm2, hat2, hnil2, h52⟩ := own_at hb1.own
        cases hv2
        have HF := hide (And.intro hb1 (And.intro (at_row hrow) hat2))
        clear hrow hg1 hb1 hat2 hl2 hnc2 hcm2 hnil2 h52
        go_wp2_with fail
        refine (same_eq _ _ D.length _ _ D _ rfl HF.out.2.1 HF.out.2.2 (by omega)).mono ?_
        rintro e w2 ⟨rfl, hg2⟩
        go_wp2_with fail
        refine (awake_any _).mono ?_
        rintro e w3 ⟨rfl, hg3⟩
        go_wp2
        go_ret
        exact ⟨rfl, grown_trans (grown_trans HF.out.1.grown hg2) hg3⟩
end Go.Proofs.Ytckmghagfaecmaa
