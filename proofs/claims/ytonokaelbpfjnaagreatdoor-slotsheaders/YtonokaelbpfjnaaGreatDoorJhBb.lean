/- Texts joined: FCRef, SlH, SlI. -/
import Derived.Test.YtonokaelbpfjnaaGreatDoorJhAq
import Derived.Test.YtonokaelbpfjnaaGreatDoorJhBa
/- The contracts of the document's step, Byte, More, Sum, back. -/
namespace Go.Proofs.YtonokaelbpfjnaaGreatDoor.Fm.Cr
open Go.RowKit
attribute [local go_sem ↓] Go.wp_at_zero Go.wp_at_succ

set_option maxHeartbeats 400000 in
theorem rstep_any (r : Nat) (hr : r < 4294967296) (w : World) : Calls Tryz.prog 146 #[.int .u32 (r : Int)] w fun e w' => e = .returned (.int .u32 ((Poly.step r : Nat) : Int)) ∧ w' = w := by
  have hxor : bits .xor .u32 ((r : Int) / 2) 3988292384 = ((r / 2 ^^^ 3988292384 : Nat) : Int) := bits_xor_u32 (r / 2) 3988292384 (by omega) (by decide)
  by_cases h : r % 2 = 1
  · rw [show Poly.step r = r / 2 ^^^ 3988292384 by simp [Poly.step, h]]
    generalize r / 2 ^^^ 3988292384 = y at *
    have hm : (r : Int) % 2 = 1 := by omega
    clear h
    go_enter Tryz.func146, Tryz.ntmps146
    go_wp2
    go_ret
    exact ⟨rfl, rfl⟩
  · rw [show Poly.step r = r / 2 by simp [Poly.step, h]]
    have hm : (r : Int) % 2 = 0 := by omega
    clear h hxor
    go_enter Tryz.func146, Tryz.ntmps146
    go_wp2
    go_ret
    exact ⟨rfl, rfl⟩

set_option maxHeartbeats 1000000 in
theorem rbyte_any (r b : Nat) (hr : r < 4294967296) (hb : b < 256) (w : World) : Calls Tryz.prog 124 #[.int .u32 (r : Int), .int .u8 (b : Int)] w fun e w' => e = .returned (.int .u32 ((Poly.byteStep r b : Nat) : Int)) ∧ w' = w := by
  have hxor := bits_xor_u32 r b hr (by omega)
  have hl := Poly.xor_lt32 hr (show b < 4294967296 by omega)
  obtain ⟨M, hM⟩ : ∃ M, M = Poly.byteStep r b := ⟨_, rfl⟩
  rw [← hM]
  have HM : Hid (M = Poly.steps 8 (r ^^^ b)) := hM
  generalize r ^^^ b = x at *
  clear hM
  go_enter Tryz.func124, Tryz.ntmps124
  go_wp2
  go_loopg [0, 5] 8 (fun k y i wr => ∃ y' j : Nat, k + j = 8 ∧ i = .int .i64 j ∧ y = .int .u32 (y' : Int) ∧ y' < 4294967296 ∧ Hid (Poly.steps k y' = M) ∧ wr = w)
  case atStart => exact ⟨x, 0, rfl, rfl, rfl, hl, HM.out.symm, rfl⟩
  case round =>
    obtain ⟨y, j, hkj, rfl, rfl, hy, HI, rfl⟩ := hrel
    by_cases hk : 0 < gk
    · obtain ⟨k, rfl⟩ : ∃ k, gk = k + 1 := ⟨gk - 1, by omega⟩
      have hl2 := Poly.step_lt hy
      have HS := hide (fun w => rstep_any y hy w)
      have HI2 : Hid (Poly.steps k (Poly.step y) = M) := HI.out
      generalize Poly.step y = y2 at *
      have hj : (j : Int) < 8 := by omega
      clear HM HI
      go_wp2_with fail
      refine (HS.out _).mono ?_
      rintro e w' ⟨rfl, rfl⟩
      go_wp2
      go_roundg k
      case measure => omega
      case rel => exact ⟨y2, j + 1, by omega, by go_num, rfl, hl2, HI2, rfl⟩
    · have hj : j = 8 := by omega
      have h0 : gk = 0 := by omega
      subst hj h0
      have h1 : y = M := HI.out
      subst h1
      clear HM HI
      go_wp2
      go_ret
      exact ⟨rfl, rfl⟩

set_option maxHeartbeats 1000000 in
theorem rmore_any (s : Nat) (ao : Option Addr) (n c : Nat) (xs : List Nat) (w : World) (hs : s < 4294967296) (hn : xs.length = n) (hx : Bytes xs) (hat : At w ao xs) (hm : n ≤ 4611686018427387904) :
    Calls Tryz.prog 86 #[.int .u32 (s : Int), .slice ao n c] w fun e w' => e = .returned (.int .u32 ((Poly.more s xs : Nat) : Int)) ∧ w' = w := by
  have hinv : bits .xor .u32 (s : Int) 4294967295 = ((4294967295 ^^^ s : Nat) : Int) := by rw [Nat.xor_comm]; exact bits_xor_u32 s 4294967295 hs (by decide)
  have hrl : 4294967295 ^^^ s < 4294967296 := Poly.xor_lt32 (by decide) hs
  have hM : Poly.more s xs = Poly.run (4294967295 ^^^ s) xs ^^^ 4294967295 := rfl
  obtain ⟨M, hM2⟩ : ∃ M, M = Poly.more s xs := ⟨_, rfl⟩
  rw [← hM2]
  rw [← hM2] at hM
  generalize 4294967295 ^^^ s = r0 at *
  have HM := hide hM
  clear hM hM2
  have HA := hide (And.intro hn (And.intro hx hat))
  clear hn hx hat
  go_enter Tryz.func86, Tryz.ntmps86
  go_wp2
  go_loopg [5, 6] n (fun k r i wr => ∃ j : Nat, k + j = n ∧ i = .int .i64 j ∧ r = .int .u32 ((Poly.run r0 (xs.take j) : Nat) : Int) ∧ wr = w)
  case atStart => exact ⟨0, by omega, rfl, rfl, rfl⟩
  case round =>
    obtain ⟨j, hkj, rfl, rfl, rfl⟩ := hrel
    obtain ⟨hn, hx, hat⟩ := HA.out
    have hR := Poly.run_lt (xs.take j) hrl (hx.take j)
    by_cases hk : 0 < gk
    · have hj : j < xs.length := by omega
      obtain ⟨a, rfl, hca⟩ := hat j xs[j] (by simp [hj])
      have hb := hx xs[j] (List.getElem_mem hj)
      have HR := hide (run_take hj r0)
      generalize xs[j] = x at *
      generalize Poly.run r0 (xs.take j) = R at *
      have HB := hide (fun w => rbyte_any R x hR hb w)
      generalize Poly.byteStep R x = R1 at *
      have hj1 : (j : Int) < (n : Int) := by omega
      clear hn hx hat HA hj HM
      go_wp2_with fail
      refine (HB.out _).mono ?_
      rintro e w' ⟨rfl, rfl⟩
      go_wp2
      go_roundg (gk - 1)
      case measure => omega
      case rel => exact ⟨j + 1, by omega, by go_num, by rw [HR.out], rfl⟩
    · have hj : j = n := by omega
      subst hj
      rw [List.take_of_length_le (by omega)] at hR ⊢
      have h1 : bits .xor .u32 ((Poly.run r0 xs : Nat) : Int) 4294967295 = (M : Int) := by rw [HM.out]; exact bits_xor_u32 _ 4294967295 hR (by decide)
      clear HM
      generalize Poly.run r0 xs = z at *
      clear hn hx hat HA
      go_wp2
      go_ret
      exact ⟨rfl, rfl⟩

set_option maxHeartbeats 400000 in
theorem rsum_any (ao : Option Addr) (n c : Nat) (xs : List Nat) (w : World) (hn : xs.length = n) (hx : Bytes xs) (hat : At w ao xs) (hm : n ≤ 4611686018427387904) :
    Calls Tryz.prog 31 #[.slice ao n c] w fun e w' => e = .returned (.int .u32 ((Poly.more 0 xs : Nat) : Int)) ∧ w' = w := by
  have HM := hide (rmore_any 0 ao n c xs w (by decide) hn hx hat hm)
  generalize Poly.more 0 xs = M at *
  clear hn hx hat hm
  go_enter Tryz.func31, Tryz.ntmps31
  go_wp2_with fail
  refine HM.out.mono ?_
  rintro e w' ⟨rfl, rfl⟩
  go_wp2
  go_ret
  exact ⟨rfl, rfl⟩
end Go.Proofs.YtonokaelbpfjnaaGreatDoor.Fm.Cr
/- The document's Header and Read. -/
namespace Go.Proofs.YtonokaelbpfjnaaGreatDoor.Fm
open Go.RowKit
attribute [local go_sem ↓] Go.wp_at_zero Go.wp_at_succ
theorem at_cells {w : World} {ad : Addr} {ys : List Int} (h : At w (some ad) ys) : ∀ j u, (ys.map (Value.int .u8))[j]? = some u → w.cell? (ad.add j) = some u := by
  intro j u hu
  rw [List.getElem?_map] at hu
  cases hj : ys[j]? with
  | none => simp [hj] at hu
  | some y =>
    simp [hj] at hu
    obtain ⟨a', ha', hc'⟩ := h j y hj
    cases ha'
    rw [← hu]; exact hc'
/-- append(s, x...), s without room: a new row. -/
theorem wpList_append_full {w : World} {ops : Array Oper} {rest : List Oper} {o : Oper} {a : Act} {Q : Exit → Act → World → Prop} (hgd : o.guard = none) (s x : Operand)
    (ho : o.op = .call { callee := .builtin .append, args := #[s, x], argTypes := #[36, 36] }) (G n : Nat) (xs : List Int) (hs : a.eval s = .slice (some ⟨G, 0, none⟩) n n) (hxs : xs.length = n) (hG : At w (some ⟨G, 0, none⟩) xs)
    (ad : Addr) (m c : Nat) (ys : List Int) (hx : a.eval x = .slice (some ad) m c) (hm : ys.length = m) (h0 : 0 < m) (hat : At w (some ad) ys) (hb : n + m ≤ 1000)
    (h : ∀ v' w', w'.ownsRow w.heap.size 5 1 v' (n + m) ((xs ++ ys).map (Value.int .u8)) → w.grownBy w' none → wpList Tryz.prog ops Q rest (a.put o.dst v') w') : wpList Tryz.prog ops Q (o :: rest) a w := by
  obtain ⟨i0, hi, hz0, hz1, hz2⟩ := info_parts Tryz.info5
  have hl1 : (xs.map (Value.int .u8)).length = n * i0.size := by rw [hz1]; simp [hxs]
  have hl2 : (ys.map (Value.int .u8)).length = m * i0.size := by rw [hz1]; simp [hm]
  have hr := run_append_grow (P := Tryz.prog) w 36 o.type 5 i0 (.int .u8 0) Tryz.underlying36 hi hz0 ⟨G, 0, none⟩ n n (xs.map (Value.int .u8)) hl1 (at_cells hG) ad m c (ys.map (Value.int .u8)) hl2 (at_cells hat) (by omega) (by omega) (growslice_fits (by omega) (by rw [hz2]; omega))
  have hge := grownCap_ge w (n + m) n 5
  have hcm : grownCap w (n + m) n 5 ≤ maxLen := grownCap_le_maxLen w (n + m) n 5 (by unfold maxLen; omega)
  refine wpList_plain hgd fun _ hK => ?_
  unfold Oper.wp execOp
  simp only [ho, resolve, invoke, builtin, Sem.run_bind, Sem.run_pure, Result.andThen_ok, List.map_toArray, List.map_cons, List.map_nil, hs, hx, hr]
  refine hK _ _ (h _ _ ⟨by simp [hxs, hm], .inr ⟨w.heap.size, _, _, rfl, Nat.le_refl _, heap_alloc_new w.drew _, hge, hcm, ?_, ?_⟩⟩ ⟨rfl, rfl, rfl, by simp, fun k hk _ => heap_alloc_old w.drew _ hk⟩)
  · simp only [Array.size_append, List.size_toArray, size_zeroCells, List.length_map, hxs, hm]
    have : (Value.cells (.int .u8 0)).size = 1 := rfl
    rw [this]
    omega
  · simp only [Array.toList_append, List.map_append]
    refine List.take_left' ?_
    simp [hxs, hm]
set_option maxHeartbeats 1000000 in
theorem rmay_any (h : Hd) (_hok : h.Ok) (w : World) : Calls Tryz.prog 62 #[hdV h] w fun e w' => e = .returned (.bool (decide h.May)) ∧ w.grownBy w' none := by
  have b1 : (w.alloc (.cells #[.int .u64 h.g, .int .u64 h.c, .int .i64 h.n, .int .u32 h.s] 35)).heap[w.heap.size]? = some (.cells (hdC h).toArray 35 (0, 0)) := heap_alloc_new w _
  unfold hdV
  go_enter Tryz.func62, Tryz.ntmps62
  go_wp2
  all_goals
    go_ret
    refine ⟨congrArg (fun b => Ending.returned (Value.bool b)) (Bool.eq_iff_iff.2 ?_), World.grownBy_alloc w _ none⟩
    show _ ↔ decide (1 ≤ h.g ∧ 0 ≤ h.n ∧ h.n ≤ 67108864) = true
    simp
    omega
/-- Inside the document's Header: the box, the row so far. -/
structure RhS (w wr : World) (B : Nat) (h : Hd) (v : Value) (bs : List Int) : Prop where
  box : wr.heap[B]? = some (.cells (hdC h).toArray 35 (0, 0))
  own : wr.ownsRow (B + 1) 5 1 v bs.length (bs.map (Value.int .u8))
  gr : w.grownBy wr none
  lo : w.heap.size ≤ B
theorem own_from {w : World} {b b' n : Nat} {v : Value} {xs : List Value} (h : w.ownsRow b 5 1 v n xs) (hb : b' ≤ b) : w.ownsRow b' 5 1 v n xs := by
  refine ⟨h.1, ?_⟩
  rcases h.2 with hn | ⟨g, cap, cur, hv, hbg, r⟩
  · exact .inl hn
  · exact .inr ⟨g, cap, cur, hv, by omega, r⟩
theorem own_still {w w' : World} {b n : Nat} {v : Value} {xs : List Value} (h : w.ownsRow b 5 1 v n xs) (hg : w.grownBy w' none) : w'.ownsRow b 5 1 v n xs := by
  refine ⟨h.1, ?_⟩
  rcases h.2 with hn | ⟨g, cap, cur, hv, hbg, hr, r⟩
  · exact .inl hn
  · exact .inr ⟨g, cap, cur, hv, hbg, (hg.block _ (row_lt hr) (by simp)).trans hr, r⟩
theorem RhS.grown {w wr wr' : World} {B : Nat} {h : Hd} {v : Value} {bs : List Int} (s : RhS w wr B h v bs) (hg : wr.grownBy wr' none) : RhS w wr' B h v bs :=
  ⟨(hg.block _ (row_lt s.box) (by simp)).trans s.box, own_still s.own hg, grown_trans s.gr hg, s.lo⟩
theorem RhS.next {w wr wr' : World} {B m : Nat} {h : Hd} {v v' : Value} {bs ys : List Int} (s : RhS w wr B h v bs) (hm : ys.length = m) (ho : wr'.ownsRow (B + 1) 5 1 v' (bs.length + m) (bs.map (Value.int .u8) ++ ys.map (Value.int .u8))) (hg : wr.grownBy wr' v.ownBlock) : RhS w wr' B h v' (bs ++ ys) :=
  ⟨(hg.block B (row_lt s.box) (fun e => by have := s.own.lt B e.symm; omega)).trans s.box, by rw [List.length_append, hm, List.map_append]; exact ho,
    grown_then s.gr hg (fun j e => Or.inl (by have := (s.own.lt j e).1; have := s.lo; omega)), s.lo⟩
set_option maxRecDepth 20000 in
set_option maxHeartbeats 4000000 in
theorem rheader_any (h : Hd) (hok : h.Ok) (hm : h.May) (w : World) :
    Calls Tryz.prog 12 #[hdV h] w fun r w' => ∃ v, r = .returned (.tuple #[v, .int .i64 0]) ∧ w'.ownsRow w.heap.size 5 1 v 32 (h.out.map (Value.int .u8)) ∧ w.grownBy w' none := by
  have b1 : (w.alloc (.cells #[.int .u64 h.g, .int .u64 h.c, .int .i64 h.n, .int .u32 h.s] 35)).heap[w.heap.size]? = some (.cells (hdC h).toArray 35 (0, 0)) := heap_alloc_new w _
  have g1 := World.grownBy_alloc w (.cells #[.int .u64 h.g, .int .u64 h.c, .int .i64 h.n, .int .u32 h.s] 35) none
  have HMy := hide (fun w => rmay_any h hok w)
  rw [show decide h.May = true from decide_eq_true hm] at HMy
  have H1 := hide (And.intro b1 g1)
  clear b1 g1
  unfold hdV at HMy ⊢
  obtain ⟨B, hB⟩ : ∃ B, w.heap.size = B := ⟨_, rfl⟩
  rw [hB] at H1
  obtain ⟨c0, c1, c2, c3⟩ := box4 H1.out.1
  go_enter Tryz.func12, Tryz.ntmps12
  go_wp2_with fail
  clear c0 c1 c2 c3
  generalize (w.alloc (.cells #[.int .u64 h.g, .int .u64 h.c, .int .i64 h.n, .int .u32 h.s] 35)) = w1 at *
  refine (HMy.out w1).mono ?_
  rintro e w2 ⟨rfl, g2⟩
  have H2 := hide (And.intro ((g2.block _ (row_lt H1.out.1) (by simp)).trans H1.out.1) (grown_trans H1.out.2 g2))
  have hcv := Go.Joins.run_convert_bytes_const_at (P := Tryz.prog) w2 36 5 #[.int .u8 71, .int .u8 65, .int .u8 78, .int .u8 71] 4 4 w2.heap.size (by simp) Tryz.underlying36 Tryz.underlying5
  clear g2 H1 HMy
  have g3 := World.grownBy_alloc w2 (.cells #[.int .u8 71, .int .u8 65, .int .u8 78, .int .u8 71] 5 (4, 5)) none
  have b3 := heap_alloc_new w2 (.cells #[.int .u8 71, .int .u8 65, .int .u8 78, .int .u8 71] 5 (4, 5))
  have H3 := hide (And.intro ((g3.block _ (row_lt H2.out.1) (by simp)).trans H2.out.1) (And.intro (grown_trans H2.out.2 g3) b3))
  have hBG : Hid (B < w2.heap.size) := row_lt H2.out.1
  obtain ⟨c0, c1, c2, c3⟩ := box4 H3.out.1
  clear g3 b3 H2
  go_wp2_with fail
  clear hcv c0 c1 c2 c3
  generalize w2.heap.size = G at *
  generalize (w2.alloc (.cells #[.int .u8 71, .int .u8 65, .int .u8 78, .int .u8 71] 5 (4, 5))) = w3 at *
  refine (refnum_any h.g 8 8 w3 rfl (by omega) hok.g0 hok.g1).mono ?_
  rintro e w4 ⟨v4, rfl, hv4, g4⟩
  obtain ⟨vo, vc, rfl, q1, q2, q3, q4, q5, q6⟩ := own_at hv4
  cases vo with
  | none => exact absurd (q5 rfl).1 (by decide)
  | some ad =>
  have hG4 : At w4 (some ⟨G, 0, none⟩) [71, 65, 78, 71] := by
    intro j u hu
    refine ⟨_, rfl, ?_⟩
    rw [Addr.add_lit, Nat.zero_add, cell_of_row w4 G j _ _ _ ((g4.block _ (row_lt H3.out.2.2) (by simp)).trans H3.out.2.2)]
    match j, hu with
    | 0, h => cases h; rfl
    | 1, h => cases h; rfl
    | 2, h => cases h; rfl
    | 3, h => cases h; rfl
    | j + 4, h => simp at h
  have HV := hide q4
  have H4 := hide (And.intro ((g4.block _ (row_lt H3.out.1) (by simp)).trans H3.out.1) (grown_trans H3.out.2.1 g4))
  clear q1 q2 q3 q4 q5 q6 hv4 g4 H3
  go_wp2_with (at_builtin; refine wpList_append_full rfl (.tmp 10) (.tmp 13) rfl G 4 [71, 65, 78, 71] rfl rfl hG4 ad 8 vc (leB h.g 8) rfl (leB_length _ _) (by decide) HV.out (by decide) ?_)
  intro v5 w5 ho hg
  have P5 : Hid (RhS w w5 B h v5 ([71, 65, 78, 71] ++ leB h.g 8)) :=
    ⟨(hg.block _ (row_lt H4.out.1) (by simp)).trans H4.out.1, own_from (by simpa [leB_length] using ho) (row_lt H4.out.1), grown_trans H4.out.2 hg, by omega⟩
  obtain ⟨L5, hL⟩ : ∃ L, L = [71, 65, 78, 71] ++ leB h.g 8 := ⟨_, rfl⟩
  have HL5 : Hid (L5 = [71, 65, 78, 71] ++ leB h.g 8 ∧ L5.length = 12) := ⟨hL, by rw [hL]; simp [leB_length]⟩
  rw [← hL] at P5
  clear hL ho hg H4 hG4 HV
  obtain ⟨bo, bc, rfl, -⟩ := own_at P5.out.own
  rw [HL5.out.2]
  have hn0 := hm.2.1
  have hn1 := hm.2.2
  have hwn : IntKind.u64.wrap h.n = h.n := by rw [IntKind.wrap_u64]; omega
  have hs0 := hok.s0
  have hs1 := hok.s1
  have hws : IntKind.u64.wrap h.s = h.s := by rw [IntKind.wrap_u64]; omega
  obtain ⟨c0, c1, c2, c3⟩ := box4 P5.out.box
  go_wp2_with fail
  refine (refnum_any h.c 8 8 w5 rfl (by omega) hok.c0 hok.c1).mono ?_
  rintro e w6 ⟨v6, rfl, hv, hg⟩
  have P6 := hide (P5.out.grown hg)
  obtain ⟨vo, vc, rfl, q1, q2, q3, q4, q5, q6⟩ := own_at hv
  have HV := hide (And.intro q4 q5)
  clear hg P5 hv q1 q2 q3 q4 q5 q6 c0 c1 c2 c3
  have ow := P6.out.own
  rw [HL5.out.2] at ow
  go_wp2_with (at_builtin; refine wpList_append_at rfl (.tmp 15) (.tmp 18) rfl (B + 1) _ 12 _ rfl ow vo 8 vc (leB h.c 8) rfl (leB_length _ _) HV.out.1 HV.out.2 (by decide) (row_lt P6.out.box) ?_)
  intro v7 w7 ho hg
  have P7 := hide (P6.out.next (m := 8) (leB_length h.c 8) (by rw [HL5.out.2]; exact ho) (by rw [HL5.out.2]; exact hg))
  obtain ⟨L7, hL⟩ : ∃ L, L = L5 ++ leB h.c 8 := ⟨_, rfl⟩
  have HL7 : Hid (L7 = L5 ++ leB h.c 8 ∧ L7.length = 20) := ⟨hL, by rw [hL, List.length_append, leB_length, HL5.out.2]⟩
  rw [← hL] at P7
  clear hL ho hg P6 HV ow
  obtain ⟨bo, bc, rfl, -⟩ := own_at P7.out.own
  rw [HL7.out.2]
  obtain ⟨c0, c1, c2, c3⟩ := box4 P7.out.box
  go_wp2_with fail
  refine (refnum_any h.n 4 4 w7 rfl (by omega) hn0 (by omega)).mono ?_
  rintro e w8 ⟨v8, rfl, hv, hg⟩
  have P8 := hide (P7.out.grown hg)
  obtain ⟨vo, vc, rfl, q1, q2, q3, q4, q5, q6⟩ := own_at hv
  have HV := hide (And.intro q4 q5)
  clear hg P7 hv q1 q2 q3 q4 q5 q6 c0 c1 c2 c3
  have ow := P8.out.own
  rw [HL7.out.2] at ow
  go_wp2_with (at_builtin; refine wpList_append_at rfl (.tmp 20) (.tmp 24) rfl (B + 1) _ 20 _ rfl ow vo 4 vc (leB h.n 4) rfl (leB_length _ _) HV.out.1 HV.out.2 (by decide) (row_lt P8.out.box) ?_)
  intro v9 w9 ho hg
  have P9 := hide (P8.out.next (m := 4) (leB_length h.n 4) (by rw [HL7.out.2]; exact ho) (by rw [HL7.out.2]; exact hg))
  obtain ⟨L9, hL⟩ : ∃ L, L = L7 ++ leB h.n 4 := ⟨_, rfl⟩
  have HL9 : Hid (L9 = L7 ++ leB h.n 4 ∧ L9.length = 24) := ⟨hL, by rw [hL, List.length_append, leB_length, HL7.out.2]⟩
  rw [← hL] at P9
  clear hL ho hg P8 HV ow
  obtain ⟨bo, bc, rfl, -⟩ := own_at P9.out.own
  rw [HL9.out.2]
  obtain ⟨c0, c1, c2, c3⟩ := box4 P9.out.box
  go_wp2_with fail
  refine (refnum_any h.s 4 4 w9 rfl (by omega) hs0 (by omega)).mono ?_
  rintro e w10 ⟨v10, rfl, hv, hg⟩
  have P10 := hide (P9.out.grown hg)
  obtain ⟨vo, vc, rfl, q1, q2, q3, q4, q5, q6⟩ := own_at hv
  have HV := hide (And.intro q4 q5)
  clear hg P9 hv q1 q2 q3 q4 q5 q6 c0 c1 c2 c3
  have ow := P10.out.own
  rw [HL9.out.2] at ow
  go_wp2_with (at_builtin; refine wpList_append_at rfl (.tmp 26) (.tmp 30) rfl (B + 1) _ 24 _ rfl ow vo 4 vc (leB h.s 4) rfl (leB_length _ _) HV.out.1 HV.out.2 (by decide) (row_lt P10.out.box) ?_)
  intro v11 w11 ho hg
  have P11 := hide (P10.out.next (m := 4) (leB_length h.s 4) (by rw [HL9.out.2]; exact ho) (by rw [HL9.out.2]; exact hg))
  obtain ⟨L11, hL⟩ : ∃ L, L = L9 ++ leB h.s 4 := ⟨_, rfl⟩
  have HL11 : Hid (L11 = L9 ++ leB h.s 4 ∧ L11.length = 28) := ⟨hL, by rw [hL, List.length_append, leB_length, HL9.out.2]⟩
  rw [← hL] at P11
  clear hL ho hg P10 HV ow
  obtain ⟨bo, bc, rfl, -⟩ := own_at P11.out.own
  rw [HL11.out.2]
  have eL : L11 = h.head := by rw [HL11.out.1, HL9.out.1, HL7.out.1, HL5.out.1]; rfl
  subst eL
  have hat : At w11 bo h.head := by
    obtain ⟨ao', cap', e, _, _, _, q4, _⟩ := own_at P11.out.own
    cases e
    exact q4
  have HSm : Hid (Calls Tryz.prog 31 #[.slice bo 28 bc] w11 fun e w' => e = .returned (.int .u32 (sumI h.head)) ∧ w' = w11) :=
    Cr.rsum_any bo 28 bc (nats h.head) w11 (by rw [nats_length, h.head_length]) (nats_lt h.head_byt) (hat.nats h.head_byt) (by decide)
  obtain ⟨hS0, hS1⟩ := sumI_lt h.head_byt
  have HO : Hid (h.out = h.head ++ leB (sumI h.head) 4) := rfl
  generalize sumI h.head = S at *
  have hwS : IntKind.u64.wrap S = S := by rw [IntKind.wrap_u64]; omega
  clear hat HL5 HL7 HL9
  go_wp2_with fail
  refine HSm.out.mono ?_
  rintro e w12 ⟨rfl, hw12⟩
  obtain rfl := hw12.symm
  go_wp2_with fail
  refine (refnum_any S 4 4 w11 rfl (by omega) hS0 (by omega)).mono ?_
  rintro e w12 ⟨v12, rfl, hv, hg⟩
  have P12 := hide (P11.out.grown hg)
  obtain ⟨vo, vc, rfl, q1, q2, q3, q4, q5, q6⟩ := own_at hv
  have HV := hide (And.intro q4 q5)
  clear hg P11 hv q1 q2 q3 q4 q5 q6 HSm
  have ow := P12.out.own
  rw [HL11.out.2] at ow
  go_wp2_with (at_builtin; refine wpList_append_at rfl (.tmp 32) (.tmp 36) rfl (B + 1) _ 28 _ rfl ow vo 4 vc (leB S 4) rfl (leB_length _ _) HV.out.1 HV.out.2 (by decide) (row_lt P12.out.box) ?_)
  intro v13 w13 ho hg
  have P13 := hide (P12.out.next (m := 4) (leB_length S 4) (by rw [HL11.out.2]; exact ho) (by rw [HL11.out.2]; exact hg))
  rw [← HO.out] at P13
  clear ho hg P12 HV ow
  obtain ⟨bo, bc, rfl, -⟩ := own_at P13.out.own
  rw [h.out_length] at P13 ⊢
  go_wp2
  go_ret2
  refine ⟨_, rfl, own_from (h.out_length ▸ P13.out.own) (by have := P13.out.lo; omega), P13.out.gr⟩
end Go.Proofs.YtonokaelbpfjnaaGreatDoor.Fm
/- The document's Header of a header that may not be; four bytes as a string. -/
namespace Go.Proofs.YtonokaelbpfjnaaGreatDoor.Fm
open Go.RowKit
attribute [local go_sem ↓] Go.wp_at_zero Go.wp_at_succ
set_option maxHeartbeats 1000000 in
theorem rheader_bad (h : Hd) (hok : h.Ok) (hm : ¬ h.May) (w : World) :
    Calls Tryz.prog 12 #[hdV h] w fun r w' => r = .returned (.tuple #[.slice none 0 0, .int .i64 2]) ∧ w.grownBy w' none := by
  have b1 : (w.alloc (.cells #[.int .u64 h.g, .int .u64 h.c, .int .i64 h.n, .int .u32 h.s] 35)).heap[w.heap.size]? = some (.cells (hdC h).toArray 35 (0, 0)) := heap_alloc_new w _
  have g1 := World.grownBy_alloc w (.cells #[.int .u64 h.g, .int .u64 h.c, .int .i64 h.n, .int .u32 h.s] 35) none
  have HMy := hide (fun w => rmay_any h hok w)
  rw [show decide h.May = false from decide_eq_false hm] at HMy
  have H1 := hide g1
  obtain ⟨c0, c1, c2, c3⟩ := box4 b1
  clear b1 g1
  unfold hdV at HMy ⊢
  go_enter Tryz.func12, Tryz.ntmps12
  go_wp2_with fail
  refine (HMy.out _).mono ?_
  rintro e w2 ⟨rfl, g2⟩
  have H2 := hide (grown_trans H1.out g2)
  clear c0 c1 c2 c3 g2 H1
  go_wp2
  go_ret2
  exact ⟨rfl, H2.out⟩
theorem conv_four {w : World} {ao : Option Addr} {ns : List Int} {cap : Nat} (hl : ns.length = 4) (hb : Byt ns) (hat : At w ao ns) : (convert 36 9 (.slice ao 4 cap)).run Tryz.prog w = .ok (.string (strOfNums ns)) w := by
  obtain ⟨a, b, c, d, rfl⟩ : ∃ a b c d, ns = [a, b, c, d] := by
    match ns, hl with
    | [a, b, c, d], _ => exact ⟨a, b, c, d, rfl⟩
  obtain ⟨ad, rfl, _⟩ := hat 0 a rfl
  have h := run_convert_bytes_back (P := Tryz.prog) w 36 9 5 ad cap [UInt8.ofNat a.toNat, UInt8.ofNat b.toNat, UInt8.ofNat c.toNat, UInt8.ofNat d.toNat] Tryz.underlying36 Tryz.underlying5 Tryz.underlying9 (by
    intro j hj
    have h1 := hb a (by simp)
    have h2 := hb b (by simp)
    have h3 := hb c (by simp)
    have h4 := hb d (by simp)
    have f : ∀ (i : Nat) (x : Int), [a, b, c, d][i]? = some x → 0 ≤ x ∧ x < 256 → w.cell? (ad.add i) = some (.int .u8 ((UInt8.ofNat x.toNat).toNat : Int)) := by
      intro i x hx hr
      obtain ⟨a', e, hc⟩ := hat i x hx
      cases e
      rw [hc, UInt8.toNat_ofNat']
      congr 2
      omega
    have hj4 : j < 4 := hj
    have : j = 0 ∨ j = 1 ∨ j = 2 ∨ j = 3 := by omega
    rcases this with rfl | rfl | rfl | rfl
    · exact f 0 a rfl h1
    · exact f 1 b rfl h2
    · exact f 2 c rfl h3
    · exact f 3 d rfl h4)
  exact h
end Go.Proofs.YtonokaelbpfjnaaGreatDoor.Fm
