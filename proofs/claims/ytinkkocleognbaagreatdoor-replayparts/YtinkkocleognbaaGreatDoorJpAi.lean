/- Texts joined: Pa. -/
import Derived.Test.YtinkkocleognbaaGreatDoorJpAh
namespace Go.Proofs.YtinkkocleognbaaGreatDoor
/- ReplayParts, walked. -/
open Go.RowKit Go.Shelf
attribute [local go_sem ↓] Go.wp_at_zero Go.wp_at_succ
attribute [local go_sem] Oper.semAt_some
theorem grownBy_size {a b : World} {row : Option Nat} (h : a.grownBy b row) : a.heap.size ≤ b.heap.size := h.size
theorem Rw.nil {w : World} {B0 : Nat} {so : Option Addr} {c2 : Nat} {h : List Rc} (r : Rw w B0 so c2 h) : so = none → c2 = 0 := by
  intro e
  subst e
  rcases r.row.2 with ⟨h1, -⟩ | ⟨g, cap, cur, h1, -⟩
  · injection h1
  · cases h1
set_option maxRecDepth 100000 in
set_option maxHeartbeats 40000000 in
theorem parts_any {w : World} {a1 : Option Addr} {c1 : Nat} {l1 : List Cg} (x kk : Int) (all : Bool) (h1 : l1.length ≤ c1) (hC1 : CgsAt w a1 l1) (hT : Rk.Tab w) : Calls Tryz.prog 7 #[.int .i64 x, .slice a1 l1.length c1, .bool all, .int .i64 kk] w fun e w' => e = .returned (.bool true) ∧ w.grownBy w' none := by
  have hos := s_ok x
  obtain ⟨h, hh⟩ : ∃ h, h = hs x l1 all := ⟨_, rfl⟩
  obtain ⟨S0, hS0⟩ : ∃ S0, S0 = nS (sa x) (sb x) (sc x) := ⟨_, rfl⟩
  have hlen : h.length ≤ 120 := by rw [hh]; exact hs_len x l1 all
  have hmem : ∀ r ∈ h, r.May ∧ r.Ok := by rw [hh]; exact hs_mem x l1 all
  have hOk0 : S0.Ok := by rw [hS0]; exact nS_ok hos
  obtain ⟨k, hk⟩ : ∃ k : Nat, kk % ((h.length + 1 : Nat) : Int) = (k : Int) := ⟨(kk % ((h.length + 1 : Nat) : Int)).toNat, by have := Int.emod_nonneg kk (b := ((h.length + 1 : Nat) : Int)) (by omega); omega⟩
  have hkl : k ≤ h.length := by have := Int.emod_lt_of_pos kk (b := ((h.length + 1 : Nat) : Int)) (by omega); omega
  obtain ⟨n, hn⟩ : ∃ n, n = rn S0 h := ⟨_, rfl⟩
  obtain ⟨er, her⟩ : ∃ er, er = rE S0 h := ⟨_, rfl⟩
  have hRan : Ran S0 h n er := by rw [hn, her]; exact ran_is S0 h
  have hRk := hRan.take k hkl
  obtain ⟨eq1, eq2⟩ := (ran_is S0 (h.take k)).uniq hRk
  have HSp : Hid (∀ W, Calls Tryz.prog 20 #[.int .i64 x] W fun e w' => e = .returned (.agg #[.int .i64 (sa x : Int), .int .i64 (sb x : Int), .int .i64 (sc x : Int)]) ∧ W.grownBy w' none) := fun W => mshape_any x W
  have HFw1 : Hid (∀ W, Calls Tryz.prog 22 #[.slice a1 l1.length c1] W fun e w' => e = .returned (.slice a1 (fw l1).length c1) ∧ w' = W) := fun W => few_any l1 h1 W
  have HHs1 : Hid (∀ W, w.grownBy W none → Calls Tryz.prog 21 #[.agg #[.int .i64 (sa x : Int), .int .i64 (sb x : Int), .int .i64 (sc x : Int)], .slice a1 (fw l1).length c1, .bool all] W fun e w' => ∃ so c2, e = .returned (.slice so h.length c2) ∧ Rw w' W.heap.size so c2 h ∧ W.grownBy w' none) := fun W g => by rw [hh]; exact hs_any x l1 all hC1 g
  have HOf1 : Hid (∀ W so c3 B0, w.grownBy W none → Rw W B0 so c3 h → Calls Tryz.prog 10 #[.agg #[.int .i64 (sa x : Int), .int .i64 (sb x : Int), .int .i64 (sc x : Int)], .slice so h.length c3] W fun e w' => ∃ d p, e = .returned (.tuple #[.pointer (some ⟨d, 0, none⟩), .int .i64 (n : Int), .int .i64 er]) ∧ Lb W w' d (fo S0 h n) p ∧ W.grownBy w' none) := by
    intro W so c3 B0 g hR
    have := of_lb x (so := so) (c2 := c3) hlen hR.at (fun r hr => (hmem r hr).2) (hT.new g)
    rw [← hS0, ← hn, ← her] at this
    exact this
  obtain ⟨m, hm⟩ : ∃ m, m = min n k := ⟨_, rfl⟩
  obtain ⟨ef, hef⟩ : ∃ ef : Int, ef = if k ≤ n then 0 else er := ⟨_, rfl⟩
  have HOf2' : Hid (∀ W so c3 B0, w.grownBy W none → Rw W B0 so c3 (h.take k) → Calls Tryz.prog 10 #[.agg #[.int .i64 (sa x : Int), .int .i64 (sb x : Int), .int .i64 (sc x : Int)], .slice so k c3] W fun e w' => ∃ d p, e = .returned (.tuple #[.pointer (some ⟨d, 0, none⟩), .int .i64 (m : Int), .int .i64 ef]) ∧ Lb W w' d (fo S0 h m) p ∧ W.grownBy w' none) := by
    intro W so c3 B0 g hR
    have hl2 : (h.take k).length = k := by rw [List.length_take]; omega
    have := of_lb x (so := so) (c2 := c3) (h := h.take k) (by omega) hR.at (fun r hr => (hmem r (List.mem_of_mem_take hr)).2) (hT.new g)
    rw [← hS0, eq1, eq2, hl2, ← hm, ← hef, fo_take (by omega)] at this
    exact this
  have HCp' : Hid (∀ W so c3 B0, Rw W B0 so c3 h → Calls Tryz.prog 33 #[.slice so k c3] W fun e w' => ∃ so2 c2, e = .returned (.slice so2 k c2) ∧ Rw w' W.heap.size so2 c2 (h.take k) ∧ W.grownBy w' none) := by
    intro W so c3 B0 hR
    have hl2 : (h.take k).length = k := by rw [List.length_take]; omega
    have := copyrec_any (cap := c3) (l := h.take k) (hR.at.take k) hR.nil (by omega)
    rw [hl2] at this
    exact this
  have HPk : Hid (∀ W, Calls Tryz.prog 32 #[.int .i64 kk, .int .i64 ((h.length : Int) + 1)] W fun e w' => e = .returned (.int .i64 (k : Int)) ∧ w' = W) := fun W => by
    have := pick_any kk (h.length + 1) W (by omega) (by omega)
    rw [hk] at this
    rw [show (((h.length + 1 : Nat)) : Int) = (h.length : Int) + 1 by omega] at this
    exact this
  obtain ⟨A, hA⟩ : ∃ A : Int, A = (sa x : Int) := ⟨_, rfl⟩
  obtain ⟨Bb, hBb⟩ : ∃ A : Int, A = (sb x : Int) := ⟨_, rfl⟩
  obtain ⟨Cc, hCc⟩ : ∃ A : Int, A = (sc x : Int) := ⟨_, rfl⟩
  have HStt : Hid (∀ W B0 so c3, w.grownBy W none → Rw W B0 so c3 h → Calls Tryz.prog 12 #[.agg #[.int .i64 A, .int .i64 Bb, .int .i64 Cc], .slice so h.length c3] W fun e w' => ∃ v, e = .returned v ∧ StF w' W.heap.size v A Bb Cc h ∧ W.grownBy w' none) := fun W B0 so c3 gW hR => states_any hR.at (fun r hr => (hmem r hr).2) (by omega) (hT.new gW)
  have HAw : Hid (∀ W, w.grownBy W none → Calls Tryz.prog 13 #[] W fun e w' => e = .returned (.bool true) ∧ W.grownBy w' none) := fun W g => awake_any W (hT.new g)
  have HSq : Hid (∀ (Bs Bl : Nat) (so : Option Addr) (cap : Nat) (W : World), StI W Bs Bl A Bb Cc so cap h → SeqW Fence.wide 5 Tryz.prog 41 #[.pointer (some ⟨Bs, 0, none⟩), .pointer (some ⟨Bl, 0, none⟩)] encS (stR Bs Bl so h.length) (fun x => x.2.own) (StV S0 h) (fun xs => xs.length = n + 1) W) := fun Bs Bl so cap W hI => by rw [hn, hS0]; rw [hA, hBb, hCc] at hI; exact st_seq 5 (by decide) Bs Bl (sa x) (sb x) (sc x) hos so cap h W hI
  have HSv : Hid (∀ pre (y : Nat × Bp) W, StV S0 h pre y W → y.1 ≤ n ∧ y.1 = pre.length ∧ BkAt W y.2 (fo S0 h y.1) 4096) := fun pre y W h => ⟨by rw [hn]; exact h.2.1, h.1, h.2.2⟩
  have HSm : Hid (∀ W i j p q d K K', BkAt W p (fo S0 h i) K → BkAt W q (fo S0 h j) K' → q.b = d → i = j → Calls Tryz.prog 34 #[.pointer (some ⟨p.b, 0, none⟩), .pointer (some ⟨d, 0, none⟩)] W fun e w' => e = .returned (.bool true) ∧ W.grownBy w' none) := by
    intro W i j p q d K K' hp hq hd hij
    subst hij
    have := same_eq hp hq (fo_ok hOk0 h i).wk
    rw [hd] at this
    exact this
  have hmn : m ≤ n ∧ m ≤ k ∧ (k ≤ n → m = k) ∧ (¬ k ≤ n → m = n) := by omega
  have HNum := hide (And.intro hRan (And.intro hmn (And.intro hef (And.intro hmem (And.intro hOk0 hT)))))
  rw [← hA, ← hBb, ← hCc] at HSp HHs1 HOf1 HOf2'
  clear hC1 hA hBb hCc hRan hRk eq1 eq2 hn her hm hef hh hS0 hos h1 hk hmem hOk0 hmn hT
  refine (callsIn_wide (n := 6)).1 (callsIn_of_wp_marks Tryz.func7 rfl trivial ?_ rfl)
  simp only [Tryz.ntmps7, List.size_toArray, List.length_cons, List.length_nil, Nat.reduceAdd, Nat.reduceSub, Array.replicate_succ, Array.replicate_zero, List.push_toArray, List.append_toArray, List.nil_append, List.cons_append]
  refine wpIn_wide.2 ?_
  go_wp2_with fail
  refine (HSp.out _).mono ?_
  rintro e w1 ⟨rfl, g1⟩
  obtain ⟨w2, hw2⟩ : ∃ w2, w1.alloc (.cells #[.int .i64 A, .int .i64 Bb, .int .i64 Cc] 23) = w2 := ⟨_, rfl⟩
  have G1 : Hid (w.grownBy w1 none) := grown_trans (grown_alloc w _) g1
  have b8 : w1.heap[w.heap.size]? = some (.cells [Value.bool false].toArray 4 (0, 0)) := (g1.block _ (row_lt (heap_alloc_new w _)) (by simp)).trans (heap_alloc_new w _)
  obtain ⟨B9, hB9⟩ : ∃ B9, w1.heap.size = B9 := ⟨_, rfl⟩
  have b9 : w2.heap[B9]? = some (.cells #[.int .i64 A, .int .i64 Bb, .int .i64 Cc] 23) := by rw [← hw2, ← hB9]; exact heap_alloc_new w1 _
  have HSh : Hid (∀ W, w2.grownBy W none → W.cell? ⟨B9, 0, none⟩ = some (.int .i64 A) ∧ W.cell? ⟨B9, 1, none⟩ = some (.int .i64 Bb) ∧ W.cell? ⟨B9, 2, none⟩ = some (.int .i64 Cc)) := by
    intro W gW
    have c := Ge.cell3 ((gW.block _ (row_lt b9) (by simp)).trans b9)
    have s0 := c 0
    have s1 := c 1
    have s2 := c 2
    simp only [Ge.getElem?_v0, Ge.getElem?_v1, Ge.getElem?_v2] at s0 s1 s2
    exact ⟨s0, s1, s2⟩
  have HB8 : Hid (w2.heap[w.heap.size]? = some (.cells [Value.bool false].toArray 4 (0, 0))) := by rw [← hw2]; exact keep1 _ _ b8
  have G2 : Hid (w.grownBy w2 none) := by rw [← hw2]; exact gn_alloc G1.out _
  have HW2 := hide hw2
  have HB9 := hide hB9
  clear hw2 b8 b9 g1 G1 hB9
  go_wp2
  rw [HW2.out, HB9.out]
  clear HW2 HB9
  have hK0 := HSh.out w2.drew (grown_drew w2 none)
  go_region_held3 (fun W => W.cell? ⟨B9, 0, none⟩ = some (.int .i64 A) ∧ W.cell? ⟨B9, 1, none⟩ = some (.int .i64 Bb) ∧ W.cell? ⟨B9, 2, none⟩ = some (.int .i64 Cc)) (first | with_reducible exact hK | with_reducible exact hK0 | exact hK0)
    ((first
      | (go_at_call 22; refine (HFw1.out _).mono ?_; rintro e wy ⟨rfl, hwy⟩; obtain rfl := hwy.symm)
      | (go_at_call 21; refine (HHs1.out _ (gn_drew G2.out)).mono ?_; rintro e w3 ⟨so1, cp1, rfl, hR1, gx⟩; have G3 := hide (grown_trans (grown_drew w2 none) gx); have hK := HSh.out w3 G3.out)))
  have HR1 := hide hR1
  have HO1 := hide (HOf1.out w3 _ cp1 _ (grown_trans G2.out G3.out) hR1)
  have s0 := hK.1
  have s1 := hK.2.1
  have s2 := hK.2.2
  clear hR1 gx hK hK0 HFw1 HHs1 HOf1
  go_wp2_with fail
  refine HO1.out.mono ?_
  rintro e w4 ⟨d1, p1, rfl, hL1, g4⟩
  obtain ⟨wb, hwb⟩ : ∃ wb, (w4.alloc (.cells #[.pointer (some ⟨d1, 0, none⟩)] 27)).alloc (.cells #[.int .i64 (n : Int)] 3) = wb := ⟨_, rfl⟩
  obtain ⟨B11, hB11⟩ : ∃ B11, w4.heap.size = B11 := ⟨_, rfl⟩
  have g4b : w4.grownBy wb none := by rw [← hwb]; exact gn_alloc (grown_alloc _ _) _
  have g3b := grown_trans g4 g4b
  have G2b := hide (grown_trans G3.out g3b)
  have GWb := hide (grown_trans G2.out G2b.out)
  have b11 : wb.heap[B11]? = some (.cells [Value.pointer (some ⟨d1, 0, none⟩)].toArray 27 (0, 0)) := by rw [← hwb, ← hB11]; exact keep1 _ _ (heap_alloc_new w4 _)
  have b12 : wb.heap[B11 + 1]? = some (.cells [Value.int .i64 (n : Int)].toArray 3 (0, 0)) := by
    rw [← hwb, ← hB11]
    have := heap_alloc_new (w4.alloc (.cells #[.pointer (some ⟨d1, 0, none⟩)] 27)) (.cells #[.int .i64 (n : Int)] 3)
    rw [World.size_alloc] at this
    exact this
  have hzb : wb.heap.size = B11 + 2 := by rw [← hwb, World.size_alloc, World.size_alloc, hB11]
  have HBx := hide (And.intro b11 (And.intro b12 hzb))
  have HL1 : Hid (Lb w3 wb d1 (fo S0 h n) p1 ∧ ∀ i, p1.own i → i < B11) := ⟨hL1.then g4b, fun i hi => by rw [← hB11]; exact hL1.bk.lt i hi⟩
  have HRb := hide (HR1.out.then g3b)
  have HKf : Hid (∀ W, wb.grownBy W none → W.cell? ⟨B9, 0, none⟩ = some (.int .i64 A) ∧ W.cell? ⟨B9, 1, none⟩ = some (.int .i64 Bb) ∧ W.cell? ⟨B9, 2, none⟩ = some (.int .i64 Cc)) := fun W gW => HSh.out W (grown_trans G2b.out gW)
  have HCp : Hid (∀ W, wb.grownBy W none → Calls Tryz.prog 33 #[.slice so1 k cp1] W fun e w' => ∃ so2 c2, e = .returned (.slice so2 k c2) ∧ Rw w' wb.heap.size so2 c2 (h.take k) ∧ W.grownBy w' none) := fun W gW => by
    refine (HCp'.out W so1 cp1 _ (HRb.out.then gW)).mono ?_
    rintro e w' ⟨so, c3, rfl, h1, h2⟩
    exact ⟨so, c3, rfl, ⟨own_base h1.row gW.size⟩, h2⟩
  obtain ⟨S2, hS2⟩ : ∃ S2, fo S0 h m = S2 := ⟨_, rfl⟩
  obtain ⟨m2, hm2⟩ : ∃ m2 : Int, (m : Int) = m2 := ⟨_, rfl⟩
  have HOf2 : Hid (∀ W so c3, wb.grownBy W none → Rw W wb.heap.size so c3 (h.take k) → Calls Tryz.prog 10 #[.agg #[.int .i64 A, .int .i64 Bb, .int .i64 Cc], .slice so k c3] W fun e w' => ∃ d p, e = .returned (.tuple #[.pointer (some ⟨d, 0, none⟩), .int .i64 m2, .int .i64 ef]) ∧ Lb W w' d S2 p ∧ W.grownBy w' none) := fun W so c3 gW hR => by rw [← hS2, ← hm2]; exact HOf2'.out W so c3 _ (grown_trans GWb.out gW) hR
  have hcp : h.length ≤ cp1 := by
    obtain ⟨vo, cc, e, hc⟩ := Ix.own_form HRb.out.row
    injection e with _ _ e3
    rw [e3]; exact hc
  have hsl := slice_to48 so1 k h.length cp1 (by omega)
  have hw1 : IntKind.i64.wrap ((h.length : Int) + 1) = (h.length : Int) + 1 := by rw [IntKind.wrap_i64]; omega
  have HW := hide (And.intro hwb hB11)
  have HSm2 := hide (And.intro hS2 hm2)
  clear hwb hB11 g4 g4b g3b b11 b12 hL1 HR1 HCp' HOf2' G3 hS2 hm2 hzb s0 s1 s2 HO1
  go_wp2_with fail
  refine (HPk.out _).mono ?_
  rintro e w5 ⟨rfl, hw5⟩
  obtain rfl := hw5.symm
  clear hw5 HPk
  go_wp2
  rw [HW.out.1, HW.out.2]
  clear HW
  go_cut [14, 15, 16] from 44 to 53 (fun v14 v15 v16 W => ∃ b4 b5 d p, v14 = .pointer (some ⟨b4, 0, none⟩) ∧ v15 = .pointer (some ⟨b5, 0, none⟩) ∧ v16 = .int .i64 ef ∧ Hid (Pz wb W b4 b5 d m2 S2 p))
  case first =>
      have hJ0 := HKf.out wb.drew (grown_drew wb none)
      have G := hide (grown_refl wb none)
      refine wp_region_noPanic ?_
      refine wp_region_held_drew (S := (fun W => W.cell? ⟨B9, 0, none⟩ = some (.int .i64 A) ∧ W.cell? ⟨B9, 1, none⟩ = some (.int .i64 Bb) ∧ W.cell? ⟨B9, 2, none⟩ = some (.int .i64 Cc))) (by kernel_rfl) ?_ (fun hHeld => ?_)
      · (exact hJ0)
      refine wpAnyH_take (i := 0) (oi := { dst := some 45, op := Go.Op.load 23 (Go.Operand.tmp 9), type := 23, pos := "outright.go:20", after := #[], guard := none }) (v := ?_) rfl (by kernel_rfl) (by kernel_rfl) (by kernel_rfl) (fun _ _ _ h => h) (Or.inl ⟨by rfl, ?_⟩) (by assumption) ?_
      rotate_left
      · (intro w hSw; (try dsimp only at hSw); (go_simp <;> with_reducible rfl))
      try simp only [Act.put, List.setIfInBounds_toArray, List.set_cons_zero, List.set_cons_succ]
      refine wpAnyH_take (i := 1) (oi := { dst := some 46, op := Go.Op.move (Go.Operand.tmp 10), type := 48, pos := "outright.go:20", after := #[], guard := none }) (v := ?_) rfl (by kernel_rfl) (by kernel_rfl) (by kernel_rfl) (fun _ _ _ h => h) (Or.inl ⟨by rfl, ?_⟩) (by assumption) ?_
      rotate_left
      · (intro w hSw; (try dsimp only at hSw); (go_simp <;> with_reducible rfl))
      try simp only [Act.put, List.setIfInBounds_toArray, List.set_cons_zero, List.set_cons_succ]
      refine wpAnyH_take (i := 2) (oi := { dst := some 47, op := Go.Op.move (Go.Operand.tmp 3), type := 3, pos := "outright.go:20", after := #[], guard := none }) (v := ?_) rfl (by kernel_rfl) (by kernel_rfl) (by kernel_rfl) (fun _ _ _ h => h) (Or.inl ⟨by rfl, ?_⟩) (by assumption) ?_
      rotate_left
      · (intro w hSw; (try dsimp only at hSw); (go_simp <;> with_reducible rfl))
      try simp only [Act.put, List.setIfInBounds_toArray, List.set_cons_zero, List.set_cons_succ]
      refine wpAnyH_take (i := 3) (oi := { dst := some 48, op := Go.Op.slice 48 (Go.Operand.tmp 46) none (some (Go.Operand.tmp 47)) none, type := 48, pos := "outright.go:20", after := #[{ on := 1, ground := Go.Ground.data }, { on := 2, ground := Go.Ground.data }], guard := none }) (v := ?_) rfl (by kernel_rfl) (by kernel_rfl) (by kernel_rfl) (fun _ _ _ h => h) (Or.inl ⟨by rfl, ?_⟩) (by assumption) ?_
      rotate_left
      · (intro w hSw; (try dsimp only at hSw); (go_simp <;> with_reducible rfl))
      try simp only [Act.put, List.setIfInBounds_toArray, List.set_cons_zero, List.set_cons_succ]
      refine wpAnyH_ready (rs := [4, 10, 11]) (by kernel_rfl) (by simp) ?_
      refine AllReadyH.cons (o := { dst := some 49, op := Go.Op.call { callee := Go.Callee.value (Go.Operand.func 33), args := #[Go.Operand.tmp 48], argTypes := #[48] }, type := 48, pos := "outright.go:20", after := #[{ on := 3, ground := Go.Ground.data }], guard := none }) rfl (fun K hK => ?_) ?_
      · skip
        go_simp
        refine (HCp.out _ (gn_drew G.out)).mono ?_
        rintro e wx1 ⟨so2, c2, rfl, hR2, gx⟩
        have HR2 := hide hR2
        have G : Hid (wb.grownBy wx1 none) := grown_trans (gn_drew G.out) gx
        have hJ := HKf.out _ G.out
        clear gx hR2
        go_wp2_with fail
        refine hK.out _ _ ?_ (fun hHeld => ?_)
        · ((try dsimp only); first | with_reducible exact hJ | with_reducible exact HKf.out _ (gn_alloc G.out _) | with_reducible exact HKf.out _ (gn_drew (gn_alloc G.out _)) | with_reducible exact hJ1 | with_reducible exact hJ2 | with_reducible exact hJ0 | exact hJ2)
        clear hK K
        try simp only [Act.put, List.setIfInBounds_toArray, List.set_cons_zero, List.set_cons_succ]
        refine wpAnyH_ready (rs := [5, 10, 11]) (by kernel_rfl) (by simp) ?_
        refine AllReadyH.cons (o := { dst := some 50, op := Go.Op.call { callee := Go.Callee.value (Go.Operand.func 10), args := #[Go.Operand.tmp 45, Go.Operand.tmp 49], argTypes := #[23, 48] }, type := 43, pos := "outright.go:20", after := #[{ on := 0, ground := Go.Ground.data }, { on := 4, ground := Go.Ground.data }, { on := 4, ground := Go.Ground.chain }], guard := none }) rfl (fun K hK => ?_) ?_
        · skip
          go_simp
          refine (HOf2.out _ _ _ G.out HR2.out).mono ?_
          rintro e wx2 ⟨d, p, rfl, hL, gx⟩
          have HL : Hid (Lb wb wx2 d S2 p) := hL.base (grownBy_size G.out)
          have G : Hid (wb.grownBy wx2 none) := grown_trans G.out gx
          have hJ := HKf.out _ G.out
          clear gx hL
          go_wp2_with fail
          refine hK.out _ _ ?_ (fun hHeld => ?_)
          · ((try dsimp only); first | with_reducible exact hJ | with_reducible exact HKf.out _ (gn_alloc G.out _) | with_reducible exact HKf.out _ (gn_drew (gn_alloc G.out _)) | with_reducible exact hJ1 | with_reducible exact hJ2 | with_reducible exact hJ0 | exact hJ2)
          clear hK K
          try simp only [Act.put, List.setIfInBounds_toArray, List.set_cons_zero, List.set_cons_succ]
          refine wpAnyH_take (i := 6) (oi := { dst := some 44, op := Go.Op.move (Go.Operand.tmp 50), type := 43, pos := "outright.go:20", after := #[{ on := 5, ground := Go.Ground.data }], guard := none }) (v := ?_) rfl (by kernel_rfl) (by kernel_rfl) (by kernel_rfl) (fun _ _ _ h => h) (Or.inl ⟨by rfl, ?_⟩) (by assumption) ?_
          rotate_left
          · (intro w hSw; (try dsimp only at hSw); (go_simp <;> with_reducible rfl))
          try simp only [Act.put, List.setIfInBounds_toArray, List.set_cons_zero, List.set_cons_succ]
          refine wpAnyH_take (i := 7) (oi := { dst := some 51, op := Go.Op.extract (Go.Operand.tmp 44) 0, type := 27, pos := "outright.go:20", after := #[{ on := 6, ground := Go.Ground.data }], guard := none }) (v := ?_) rfl (by kernel_rfl) (by kernel_rfl) (by kernel_rfl) (fun _ _ _ h => h) (Or.inl ⟨by rfl, ?_⟩) (by assumption) ?_
          rotate_left
          · (intro w hSw; (try dsimp only at hSw); (go_simp <;> with_reducible rfl))
          try simp only [Act.put, List.setIfInBounds_toArray, List.set_cons_zero, List.set_cons_succ]
          refine wpAnyH_take (i := 8) (oi := { dst := some 52, op := Go.Op.extract (Go.Operand.tmp 44) 1, type := 3, pos := "outright.go:20", after := #[{ on := 6, ground := Go.Ground.data }, { on := 12, ground := Go.Ground.gcOnly Go.Departure.lateStores }], guard := none }) (v := ?_) rfl (by kernel_rfl) (by kernel_rfl) (by kernel_rfl) (fun _ _ _ h => h) (Or.inl ⟨by rfl, ?_⟩) (by assumption) ?_
          rotate_left
          · (intro w hSw; (try dsimp only at hSw); (go_simp <;> with_reducible rfl))
          try simp only [Act.put, List.setIfInBounds_toArray, List.set_cons_zero, List.set_cons_succ]
          refine wpAnyH_take (i := 9) (oi := { dst := some 53, op := Go.Op.extract (Go.Operand.tmp 44) 2, type := 24, pos := "outright.go:20", after := #[{ on := 6, ground := Go.Ground.data }, { on := 13, ground := Go.Ground.gcOnly Go.Departure.lateStores }], guard := none }) (v := ?_) rfl (by kernel_rfl) (by kernel_rfl) (by kernel_rfl) (fun _ _ _ h => h) (Or.inl ⟨by rfl, ?_⟩) (by assumption) ?_
          rotate_left
          · (intro w hSw; (try dsimp only at hSw); (go_simp <;> with_reducible rfl))
          try simp only [Act.put, List.setIfInBounds_toArray, List.set_cons_zero, List.set_cons_succ]
          refine wpAnyH_ready (rs := [10, 11]) (by kernel_rfl) (by simp) ?_
          refine AllReadyH.cons (o := { dst := some 14, op := Go.Op.alloc 27, type := 0, pos := "outright.go:20", after := #[], guard := none }) rfl (fun K hK => ?_) ?_
          · skip
            go_simp
            refine hK.out _ _ ?_ (fun hHeld => ?_)
            · ((try dsimp only); first | with_reducible exact hJ | with_reducible exact HKf.out _ (gn_alloc G.out _) | with_reducible exact HKf.out _ (gn_drew (gn_alloc G.out _)) | with_reducible exact hJ1 | with_reducible exact hJ2 | with_reducible exact hJ0 | exact hJ2)
            clear hK K
            try simp only [Act.put, List.setIfInBounds_toArray, List.set_cons_zero, List.set_cons_succ]
            obtain ⟨wx3, hnw⟩ : ∃ wx3, wx2.alloc (.cells #[.pointer none] 27) = wx3 := ⟨_, rfl⟩
            obtain ⟨b4, hnb⟩ : ∃ b4, wx2.heap.size = b4 := ⟨_, rfl⟩
            have HB4 : Hid (wx3.heap[b4]? = some (.cells [Value.pointer none].toArray 27 (0, 0))) := by rw [← hnw, ← hnb]; exact heap_alloc_new wx2 _
            have HG4 : Hid (wb.heap.size ≤ b4) := by rw [← hnb]; exact grownBy_size G.out
            have HN4 : Hid (¬ p.own b4) := fun e => by have h1 := HL.out.bk.lt _ e; rw [← hnb] at h1; exact Nat.lt_irrefl _ h1
            have HL : Hid (Lb wb wx3 d S2 p) := by rw [← hnw]; exact HL.out.then (grown_alloc _ _)
            have G : Hid (wb.grownBy wx3 none) := by rw [← hnw]; exact gn_alloc G.out _
            have hJ := HKf.out _ G.out
            rw [hnw, hnb]
            clear hnw hnb
            refine wpAnyH_ready (rs := [11]) (by kernel_rfl) (by simp) ?_
            refine AllReadyH.cons (o := { dst := some 15, op := Go.Op.alloc 3, type := 0, pos := "outright.go:20", after := #[], guard := none }) rfl (fun K hK => ?_) ?_
            rotate_left
            · exact AllReadyH.nil
            go_simp
            refine hK.out _ _ ?_ (fun hHeld => ?_)
            · ((try dsimp only); first | with_reducible exact hJ | with_reducible exact HKf.out _ (gn_alloc G.out _) | with_reducible exact HKf.out _ (gn_drew (gn_alloc G.out _)) | with_reducible exact hJ1 | with_reducible exact hJ2 | with_reducible exact hJ0 | exact hJ2)
            clear hK K
            try simp only [Act.put, List.setIfInBounds_toArray, List.set_cons_zero, List.set_cons_succ]
            obtain ⟨wx4, hnw⟩ : ∃ wx4, wx3.alloc (.cells #[.int .i64 0] 3) = wx4 := ⟨_, rfl⟩
            obtain ⟨b5, hnb⟩ : ∃ b5, wx3.heap.size = b5 := ⟨_, rfl⟩
            have HB5 : Hid (wx4.heap[b5]? = some (.cells [Value.int .i64 0].toArray 3 (0, 0))) := by rw [← hnw, ← hnb]; exact heap_alloc_new wx3 _
            have HG5 : Hid (wb.heap.size ≤ b5) := by rw [← hnb]; exact grownBy_size G.out
            have HB4 : Hid (wx4.heap[b4]? = some (.cells [Value.pointer none].toArray 27 (0, 0))) := by rw [← hnw]; exact keep1 _ _ HB4.out
            have HN5 : Hid (¬ p.own b5) := fun e => by have h1 := HL.out.bk.lt _ e; rw [← hnb] at h1; exact Nat.lt_irrefl _ h1
            have HL : Hid (Lb wb wx4 d S2 p) := by rw [← hnw]; exact HL.out.then (grown_alloc _ _)
            have G : Hid (wb.grownBy wx4 none) := by rw [← hnw]; exact gn_alloc G.out _
            have hJ := HKf.out _ G.out
            rw [hnw, hnb]
            clear hnw hnb
            have HY : Hid (Py wb wx4 b4 b5 d S2 p) := ⟨HB4.out, HB5.out, G.out, HL.out, HN4.out, HN5.out, HG4.out, HG5.out⟩
            have HZ := hide (HY.out.two m2)
            have hJ1 := HKf.out _ HY.out.one.2.2.1
            have hJ2 := HKf.out _ HZ.out.gr
            have y4 : wx4.cell? ⟨b4, 0, none⟩ = some (.pointer none) := by have := cell_row HY.out.c4 0; simpa using this
            have z4 : wx4.frozen? ⟨b4, 0, none⟩ = false := free_row HY.out.c4 0
            have y5 : (wx4.setCell ⟨b4, 0, none⟩ (.pointer (some ⟨d, 0, none⟩))).cell? ⟨b5, 0, none⟩ = some (.int .i64 0) := by have := cell_row HY.out.one.2.1 0; simpa using this
            have z5 : (wx4.setCell ⟨b4, 0, none⟩ (.pointer (some ⟨d, 0, none⟩))).frozen? ⟨b5, 0, none⟩ = false := free_row HY.out.one.2.1 0
            refine wpAnyH_ready (rs := [12]) (by kernel_rfl) (by simp) ?_
            refine AllReadyH.cons (o := { dst := none, op := Go.Op.store 27 (Go.Operand.tmp 14) (Go.Operand.tmp 51), type := 0, pos := "outright.go:20", after := #[{ on := 10, ground := Go.Ground.data }, { on := 7, ground := Go.Ground.data }, { on := 5, ground := Go.Ground.chain }, { on := 0, ground := Go.Ground.phase }, { on := 1, ground := Go.Ground.phase }, { on := 2, ground := Go.Ground.phase }, { on := 3, ground := Go.Ground.phase }, { on := 4, ground := Go.Ground.phase }, { on := 5, ground := Go.Ground.phase }, { on := 6, ground := Go.Ground.phase }, { on := 7, ground := Go.Ground.phase }, { on := 8, ground := Go.Ground.textOnly Go.Departure.lateStores }, { on := 9, ground := Go.Ground.textOnly Go.Departure.lateStores }, { on := 10, ground := Go.Ground.phase }, { on := 11, ground := Go.Ground.phase }], guard := none }) rfl (fun K hK => ?_) ?_
            rotate_left
            · exact AllReadyH.nil
            go_simp
            refine hK.out _ _ ?_ (fun hHeld => ?_)
            · ((try dsimp only); first | with_reducible exact hJ | with_reducible exact HKf.out _ (gn_alloc G.out _) | with_reducible exact HKf.out _ (gn_drew (gn_alloc G.out _)) | with_reducible exact hJ1 | with_reducible exact hJ2 | with_reducible exact hJ0 | exact hJ2)
            clear hK K
            try simp only [Act.put, List.setIfInBounds_toArray, List.set_cons_zero, List.set_cons_succ]
            refine wpAnyH_ready (rs := [13]) (by kernel_rfl) (by simp) ?_
            refine AllReadyH.cons (o := { dst := none, op := Go.Op.store 3 (Go.Operand.tmp 15) (Go.Operand.tmp 52), type := 0, pos := "outright.go:20", after := #[{ on := 11, ground := Go.Ground.data }, { on := 8, ground := Go.Ground.data }, { on := 12, ground := Go.Ground.chain }, { on := 0, ground := Go.Ground.phase }, { on := 1, ground := Go.Ground.phase }, { on := 2, ground := Go.Ground.phase }, { on := 3, ground := Go.Ground.phase }, { on := 4, ground := Go.Ground.phase }, { on := 5, ground := Go.Ground.phase }, { on := 6, ground := Go.Ground.phase }, { on := 7, ground := Go.Ground.phase }, { on := 8, ground := Go.Ground.phase }, { on := 9, ground := Go.Ground.textOnly Go.Departure.lateStores }, { on := 10, ground := Go.Ground.phase }, { on := 11, ground := Go.Ground.phase }, { on := 12, ground := Go.Ground.phase }], guard := none }) rfl (fun K hK => ?_) ?_
            rotate_left
            · exact AllReadyH.nil
            go_simp
            refine hK.out _ _ ?_ (fun hHeld => ?_)
            · ((try dsimp only); first | with_reducible exact hJ | with_reducible exact HKf.out _ (gn_alloc G.out _) | with_reducible exact HKf.out _ (gn_drew (gn_alloc G.out _)) | with_reducible exact hJ1 | with_reducible exact hJ2 | with_reducible exact hJ0 | exact hJ2)
            clear hK K
            try simp only [Act.put, List.setIfInBounds_toArray, List.set_cons_zero, List.set_cons_succ]
            refine wpAnyH_take (i := 14) (oi := { dst := some 16, op := Go.Op.assign (Go.Operand.tmp 53), type := 24, pos := "outright.go:20", after := #[{ on := 9, ground := Go.Ground.data }, { on := 13, ground := Go.Ground.chain }, { on := 0, ground := Go.Ground.phase }, { on := 1, ground := Go.Ground.phase }, { on := 2, ground := Go.Ground.phase }, { on := 3, ground := Go.Ground.phase }, { on := 4, ground := Go.Ground.phase }, { on := 5, ground := Go.Ground.phase }, { on := 6, ground := Go.Ground.phase }, { on := 7, ground := Go.Ground.phase }, { on := 8, ground := Go.Ground.phase }, { on := 9, ground := Go.Ground.phase }, { on := 10, ground := Go.Ground.phase }, { on := 11, ground := Go.Ground.phase }, { on := 12, ground := Go.Ground.phase }, { on := 13, ground := Go.Ground.phase }], guard := none }) (v := ?_) rfl (by kernel_rfl) (by kernel_rfl) (by kernel_rfl) (fun _ _ _ h => h) (Or.inl ⟨by rfl, ?_⟩) (by assumption) ?_
            rotate_left
            · (intro w hSw; (try dsimp only at hSw); (go_simp <;> with_reducible rfl))
            try simp only [Act.put, List.setIfInBounds_toArray, List.set_cons_zero, List.set_cons_succ]
            refine wpAnyH_done (by kernel_rfl) ?_ _
            refine NoPanic.normal ?_
            go_wp2
            go_meet
            case rel => exact ⟨_, _, _, _, rfl, rfl, rfl, HZ.out⟩
          refine AllReadyH.cons (o := { dst := some 15, op := Go.Op.alloc 3, type := 0, pos := "outright.go:20", after := #[], guard := none }) rfl (fun K hK => ?_) ?_
          · skip
            go_simp
            refine hK.out _ _ ?_ (fun hHeld => ?_)
            · ((try dsimp only); first | with_reducible exact hJ | with_reducible exact HKf.out _ (gn_alloc G.out _) | with_reducible exact HKf.out _ (gn_drew (gn_alloc G.out _)) | with_reducible exact hJ1 | with_reducible exact hJ2 | with_reducible exact hJ0 | exact hJ2)
            clear hK K
            try simp only [Act.put, List.setIfInBounds_toArray, List.set_cons_zero, List.set_cons_succ]
            obtain ⟨wx5, hnw⟩ : ∃ wx5, wx2.alloc (.cells #[.int .i64 0] 3) = wx5 := ⟨_, rfl⟩
            obtain ⟨b5, hnb⟩ : ∃ b5, wx2.heap.size = b5 := ⟨_, rfl⟩
            have HB5 : Hid (wx5.heap[b5]? = some (.cells [Value.int .i64 0].toArray 3 (0, 0))) := by rw [← hnw, ← hnb]; exact heap_alloc_new wx2 _
            have HG5 : Hid (wb.heap.size ≤ b5) := by rw [← hnb]; exact grownBy_size G.out
            have HN5 : Hid (¬ p.own b5) := fun e => by have h1 := HL.out.bk.lt _ e; rw [← hnb] at h1; exact Nat.lt_irrefl _ h1
            have HL : Hid (Lb wb wx5 d S2 p) := by rw [← hnw]; exact HL.out.then (grown_alloc _ _)
            have G : Hid (wb.grownBy wx5 none) := by rw [← hnw]; exact gn_alloc G.out _
            have hJ := HKf.out _ G.out
            rw [hnw, hnb]
            clear hnw hnb
            refine wpAnyH_ready (rs := [10]) (by kernel_rfl) (by simp) ?_
            refine AllReadyH.cons (o := { dst := some 14, op := Go.Op.alloc 27, type := 0, pos := "outright.go:20", after := #[], guard := none }) rfl (fun K hK => ?_) ?_
            rotate_left
            · exact AllReadyH.nil
            go_simp
            refine hK.out _ _ ?_ (fun hHeld => ?_)
            · ((try dsimp only); first | with_reducible exact hJ | with_reducible exact HKf.out _ (gn_alloc G.out _) | with_reducible exact HKf.out _ (gn_drew (gn_alloc G.out _)) | with_reducible exact hJ1 | with_reducible exact hJ2 | with_reducible exact hJ0 | exact hJ2)
            clear hK K
            try simp only [Act.put, List.setIfInBounds_toArray, List.set_cons_zero, List.set_cons_succ]
            obtain ⟨wx6, hnw⟩ : ∃ wx6, wx5.alloc (.cells #[.pointer none] 27) = wx6 := ⟨_, rfl⟩
            obtain ⟨b4, hnb⟩ : ∃ b4, wx5.heap.size = b4 := ⟨_, rfl⟩
            have HB4 : Hid (wx6.heap[b4]? = some (.cells [Value.pointer none].toArray 27 (0, 0))) := by rw [← hnw, ← hnb]; exact heap_alloc_new wx5 _
            have HG4 : Hid (wb.heap.size ≤ b4) := by rw [← hnb]; exact grownBy_size G.out
            have HB5 : Hid (wx6.heap[b5]? = some (.cells [Value.int .i64 0].toArray 3 (0, 0))) := by rw [← hnw]; exact keep1 _ _ HB5.out
            have HN4 : Hid (¬ p.own b4) := fun e => by have h1 := HL.out.bk.lt _ e; rw [← hnb] at h1; exact Nat.lt_irrefl _ h1
            have HL : Hid (Lb wb wx6 d S2 p) := by rw [← hnw]; exact HL.out.then (grown_alloc _ _)
            have G : Hid (wb.grownBy wx6 none) := by rw [← hnw]; exact gn_alloc G.out _
            have hJ := HKf.out _ G.out
            rw [hnw, hnb]
            clear hnw hnb
            have HY : Hid (Py wb wx6 b4 b5 d S2 p) := ⟨HB4.out, HB5.out, G.out, HL.out, HN4.out, HN5.out, HG4.out, HG5.out⟩
            have HZ := hide (HY.out.two m2)
            have hJ1 := HKf.out _ HY.out.one.2.2.1
            have hJ2 := HKf.out _ HZ.out.gr
            have y4 : wx6.cell? ⟨b4, 0, none⟩ = some (.pointer none) := by have := cell_row HY.out.c4 0; simpa using this
            have z4 : wx6.frozen? ⟨b4, 0, none⟩ = false := free_row HY.out.c4 0
            have y5 : (wx6.setCell ⟨b4, 0, none⟩ (.pointer (some ⟨d, 0, none⟩))).cell? ⟨b5, 0, none⟩ = some (.int .i64 0) := by have := cell_row HY.out.one.2.1 0; simpa using this
            have z5 : (wx6.setCell ⟨b4, 0, none⟩ (.pointer (some ⟨d, 0, none⟩))).frozen? ⟨b5, 0, none⟩ = false := free_row HY.out.one.2.1 0
            refine wpAnyH_ready (rs := [12]) (by kernel_rfl) (by simp) ?_
            refine AllReadyH.cons (o := { dst := none, op := Go.Op.store 27 (Go.Operand.tmp 14) (Go.Operand.tmp 51), type := 0, pos := "outright.go:20", after := #[{ on := 10, ground := Go.Ground.data }, { on := 7, ground := Go.Ground.data }, { on := 5, ground := Go.Ground.chain }, { on := 0, ground := Go.Ground.phase }, { on := 1, ground := Go.Ground.phase }, { on := 2, ground := Go.Ground.phase }, { on := 3, ground := Go.Ground.phase }, { on := 4, ground := Go.Ground.phase }, { on := 5, ground := Go.Ground.phase }, { on := 6, ground := Go.Ground.phase }, { on := 7, ground := Go.Ground.phase }, { on := 8, ground := Go.Ground.textOnly Go.Departure.lateStores }, { on := 9, ground := Go.Ground.textOnly Go.Departure.lateStores }, { on := 10, ground := Go.Ground.phase }, { on := 11, ground := Go.Ground.phase }], guard := none }) rfl (fun K hK => ?_) ?_
            rotate_left
            · exact AllReadyH.nil
            go_simp
            refine hK.out _ _ ?_ (fun hHeld => ?_)
            · ((try dsimp only); first | with_reducible exact hJ | with_reducible exact HKf.out _ (gn_alloc G.out _) | with_reducible exact HKf.out _ (gn_drew (gn_alloc G.out _)) | with_reducible exact hJ1 | with_reducible exact hJ2 | with_reducible exact hJ0 | exact hJ2)
            clear hK K
            try simp only [Act.put, List.setIfInBounds_toArray, List.set_cons_zero, List.set_cons_succ]
            refine wpAnyH_ready (rs := [13]) (by kernel_rfl) (by simp) ?_
            refine AllReadyH.cons (o := { dst := none, op := Go.Op.store 3 (Go.Operand.tmp 15) (Go.Operand.tmp 52), type := 0, pos := "outright.go:20", after := #[{ on := 11, ground := Go.Ground.data }, { on := 8, ground := Go.Ground.data }, { on := 12, ground := Go.Ground.chain }, { on := 0, ground := Go.Ground.phase }, { on := 1, ground := Go.Ground.phase }, { on := 2, ground := Go.Ground.phase }, { on := 3, ground := Go.Ground.phase }, { on := 4, ground := Go.Ground.phase }, { on := 5, ground := Go.Ground.phase }, { on := 6, ground := Go.Ground.phase }, { on := 7, ground := Go.Ground.phase }, { on := 8, ground := Go.Ground.phase }, { on := 9, ground := Go.Ground.textOnly Go.Departure.lateStores }, { on := 10, ground := Go.Ground.phase }, { on := 11, ground := Go.Ground.phase }, { on := 12, ground := Go.Ground.phase }], guard := none }) rfl (fun K hK => ?_) ?_
            rotate_left
            · exact AllReadyH.nil
            go_simp
            refine hK.out _ _ ?_ (fun hHeld => ?_)
            · ((try dsimp only); first | with_reducible exact hJ | with_reducible exact HKf.out _ (gn_alloc G.out _) | with_reducible exact HKf.out _ (gn_drew (gn_alloc G.out _)) | with_reducible exact hJ1 | with_reducible exact hJ2 | with_reducible exact hJ0 | exact hJ2)
            clear hK K
            try simp only [Act.put, List.setIfInBounds_toArray, List.set_cons_zero, List.set_cons_succ]
            refine wpAnyH_take (i := 14) (oi := { dst := some 16, op := Go.Op.assign (Go.Operand.tmp 53), type := 24, pos := "outright.go:20", after := #[{ on := 9, ground := Go.Ground.data }, { on := 13, ground := Go.Ground.chain }, { on := 0, ground := Go.Ground.phase }, { on := 1, ground := Go.Ground.phase }, { on := 2, ground := Go.Ground.phase }, { on := 3, ground := Go.Ground.phase }, { on := 4, ground := Go.Ground.phase }, { on := 5, ground := Go.Ground.phase }, { on := 6, ground := Go.Ground.phase }, { on := 7, ground := Go.Ground.phase }, { on := 8, ground := Go.Ground.phase }, { on := 9, ground := Go.Ground.phase }, { on := 10, ground := Go.Ground.phase }, { on := 11, ground := Go.Ground.phase }, { on := 12, ground := Go.Ground.phase }, { on := 13, ground := Go.Ground.phase }], guard := none }) (v := ?_) rfl (by kernel_rfl) (by kernel_rfl) (by kernel_rfl) (fun _ _ _ h => h) (Or.inl ⟨by rfl, ?_⟩) (by assumption) ?_
            rotate_left
            · (intro w hSw; (try dsimp only at hSw); (go_simp <;> with_reducible rfl))
            try simp only [Act.put, List.setIfInBounds_toArray, List.set_cons_zero, List.set_cons_succ]
            refine wpAnyH_done (by kernel_rfl) ?_ _
            refine NoPanic.normal ?_
            go_wp2
            go_meet
            case rel => exact ⟨_, _, _, _, rfl, rfl, rfl, HZ.out⟩
          exact AllReadyH.nil
        refine AllReadyH.cons (o := { dst := some 14, op := Go.Op.alloc 27, type := 0, pos := "outright.go:20", after := #[], guard := none }) rfl (fun K hK => ?_) ?_
        · skip
          go_simp
          refine hK.out _ _ ?_ (fun hHeld => ?_)
          · ((try dsimp only); first | with_reducible exact hJ | with_reducible exact HKf.out _ (gn_alloc G.out _) | with_reducible exact HKf.out _ (gn_drew (gn_alloc G.out _)) | with_reducible exact hJ1 | with_reducible exact hJ2 | with_reducible exact hJ0 | exact hJ2)
          clear hK K
          try simp only [Act.put, List.setIfInBounds_toArray, List.set_cons_zero, List.set_cons_succ]
          obtain ⟨wx7, hnw⟩ : ∃ wx7, wx1.alloc (.cells #[.pointer none] 27) = wx7 := ⟨_, rfl⟩
          obtain ⟨b4, hnb⟩ : ∃ b4, wx1.heap.size = b4 := ⟨_, rfl⟩
          have HB4 : Hid (wx7.heap[b4]? = some (.cells [Value.pointer none].toArray 27 (0, 0))) := by rw [← hnw, ← hnb]; exact heap_alloc_new wx1 _
          have HG4 : Hid (wb.heap.size ≤ b4) := by rw [← hnb]; exact grownBy_size G.out
          have HR2 : Hid (Rw wx7 wb.heap.size so2 c2 (h.take k)) := by rw [← hnw]; exact HR2.out.then (grown_alloc _ _)
          have G : Hid (wb.grownBy wx7 none) := by rw [← hnw]; exact gn_alloc G.out _
          have hJ := HKf.out _ G.out
          rw [hnw, hnb]
          clear hnw hnb
          refine wpAnyH_ready (rs := [5, 11]) (by kernel_rfl) (by simp) ?_
          refine AllReadyH.cons (o := { dst := some 50, op := Go.Op.call { callee := Go.Callee.value (Go.Operand.func 10), args := #[Go.Operand.tmp 45, Go.Operand.tmp 49], argTypes := #[23, 48] }, type := 43, pos := "outright.go:20", after := #[{ on := 0, ground := Go.Ground.data }, { on := 4, ground := Go.Ground.data }, { on := 4, ground := Go.Ground.chain }], guard := none }) rfl (fun K hK => ?_) ?_
          · skip
            go_simp
            refine (HOf2.out _ _ _ G.out HR2.out).mono ?_
            rintro e wx8 ⟨d, p, rfl, hL, gx⟩
            have HN4 : Hid (¬ p.own b4) := fun e => by have h1 := hL.own _ e; have h2 := row_lt HB4.out; exact absurd h2 (Nat.not_lt.2 h1)
            have HB4 := hide ((gx.block _ (row_lt HB4.out) (by simp)).trans HB4.out)
            have HL : Hid (Lb wb wx8 d S2 p) := hL.base (grownBy_size G.out)
            have G : Hid (wb.grownBy wx8 none) := grown_trans G.out gx
            have hJ := HKf.out _ G.out
            clear gx hL
            go_wp2_with fail
            refine hK.out _ _ ?_ (fun hHeld => ?_)
            · ((try dsimp only); first | with_reducible exact hJ | with_reducible exact HKf.out _ (gn_alloc G.out _) | with_reducible exact HKf.out _ (gn_drew (gn_alloc G.out _)) | with_reducible exact hJ1 | with_reducible exact hJ2 | with_reducible exact hJ0 | exact hJ2)
            clear hK K
            try simp only [Act.put, List.setIfInBounds_toArray, List.set_cons_zero, List.set_cons_succ]
            refine wpAnyH_take (i := 6) (oi := { dst := some 44, op := Go.Op.move (Go.Operand.tmp 50), type := 43, pos := "outright.go:20", after := #[{ on := 5, ground := Go.Ground.data }], guard := none }) (v := ?_) rfl (by kernel_rfl) (by kernel_rfl) (by kernel_rfl) (fun _ _ _ h => h) (Or.inl ⟨by rfl, ?_⟩) (by assumption) ?_
            rotate_left
            · (intro w hSw; (try dsimp only at hSw); (go_simp <;> with_reducible rfl))
            try simp only [Act.put, List.setIfInBounds_toArray, List.set_cons_zero, List.set_cons_succ]
            refine wpAnyH_take (i := 7) (oi := { dst := some 51, op := Go.Op.extract (Go.Operand.tmp 44) 0, type := 27, pos := "outright.go:20", after := #[{ on := 6, ground := Go.Ground.data }], guard := none }) (v := ?_) rfl (by kernel_rfl) (by kernel_rfl) (by kernel_rfl) (fun _ _ _ h => h) (Or.inl ⟨by rfl, ?_⟩) (by assumption) ?_
            rotate_left
            · (intro w hSw; (try dsimp only at hSw); (go_simp <;> with_reducible rfl))
            try simp only [Act.put, List.setIfInBounds_toArray, List.set_cons_zero, List.set_cons_succ]
            refine wpAnyH_take (i := 8) (oi := { dst := some 52, op := Go.Op.extract (Go.Operand.tmp 44) 1, type := 3, pos := "outright.go:20", after := #[{ on := 6, ground := Go.Ground.data }, { on := 12, ground := Go.Ground.gcOnly Go.Departure.lateStores }], guard := none }) (v := ?_) rfl (by kernel_rfl) (by kernel_rfl) (by kernel_rfl) (fun _ _ _ h => h) (Or.inl ⟨by rfl, ?_⟩) (by assumption) ?_
            rotate_left
            · (intro w hSw; (try dsimp only at hSw); (go_simp <;> with_reducible rfl))
            try simp only [Act.put, List.setIfInBounds_toArray, List.set_cons_zero, List.set_cons_succ]
            refine wpAnyH_take (i := 9) (oi := { dst := some 53, op := Go.Op.extract (Go.Operand.tmp 44) 2, type := 24, pos := "outright.go:20", after := #[{ on := 6, ground := Go.Ground.data }, { on := 13, ground := Go.Ground.gcOnly Go.Departure.lateStores }], guard := none }) (v := ?_) rfl (by kernel_rfl) (by kernel_rfl) (by kernel_rfl) (fun _ _ _ h => h) (Or.inl ⟨by rfl, ?_⟩) (by assumption) ?_
            rotate_left
            · (intro w hSw; (try dsimp only at hSw); (go_simp <;> with_reducible rfl))
            try simp only [Act.put, List.setIfInBounds_toArray, List.set_cons_zero, List.set_cons_succ]
            refine wpAnyH_ready (rs := [11]) (by kernel_rfl) (by simp) ?_
            refine AllReadyH.cons (o := { dst := some 15, op := Go.Op.alloc 3, type := 0, pos := "outright.go:20", after := #[], guard := none }) rfl (fun K hK => ?_) ?_
            rotate_left
            · exact AllReadyH.nil
            go_simp
            refine hK.out _ _ ?_ (fun hHeld => ?_)
            · ((try dsimp only); first | with_reducible exact hJ | with_reducible exact HKf.out _ (gn_alloc G.out _) | with_reducible exact HKf.out _ (gn_drew (gn_alloc G.out _)) | with_reducible exact hJ1 | with_reducible exact hJ2 | with_reducible exact hJ0 | exact hJ2)
            clear hK K
            try simp only [Act.put, List.setIfInBounds_toArray, List.set_cons_zero, List.set_cons_succ]
            obtain ⟨wx9, hnw⟩ : ∃ wx9, wx8.alloc (.cells #[.int .i64 0] 3) = wx9 := ⟨_, rfl⟩
            obtain ⟨b5, hnb⟩ : ∃ b5, wx8.heap.size = b5 := ⟨_, rfl⟩
            have HB5 : Hid (wx9.heap[b5]? = some (.cells [Value.int .i64 0].toArray 3 (0, 0))) := by rw [← hnw, ← hnb]; exact heap_alloc_new wx8 _
            have HG5 : Hid (wb.heap.size ≤ b5) := by rw [← hnb]; exact grownBy_size G.out
            have HB4 : Hid (wx9.heap[b4]? = some (.cells [Value.pointer none].toArray 27 (0, 0))) := by rw [← hnw]; exact keep1 _ _ HB4.out
            have HN5 : Hid (¬ p.own b5) := fun e => by have h1 := HL.out.bk.lt _ e; rw [← hnb] at h1; exact Nat.lt_irrefl _ h1
            have HL : Hid (Lb wb wx9 d S2 p) := by rw [← hnw]; exact HL.out.then (grown_alloc _ _)
            have G : Hid (wb.grownBy wx9 none) := by rw [← hnw]; exact gn_alloc G.out _
            have hJ := HKf.out _ G.out
            rw [hnw, hnb]
            clear hnw hnb
            have HY : Hid (Py wb wx9 b4 b5 d S2 p) := ⟨HB4.out, HB5.out, G.out, HL.out, HN4.out, HN5.out, HG4.out, HG5.out⟩
            have HZ := hide (HY.out.two m2)
            have hJ1 := HKf.out _ HY.out.one.2.2.1
            have hJ2 := HKf.out _ HZ.out.gr
            have y4 : wx9.cell? ⟨b4, 0, none⟩ = some (.pointer none) := by have := cell_row HY.out.c4 0; simpa using this
            have z4 : wx9.frozen? ⟨b4, 0, none⟩ = false := free_row HY.out.c4 0
            have y5 : (wx9.setCell ⟨b4, 0, none⟩ (.pointer (some ⟨d, 0, none⟩))).cell? ⟨b5, 0, none⟩ = some (.int .i64 0) := by have := cell_row HY.out.one.2.1 0; simpa using this
            have z5 : (wx9.setCell ⟨b4, 0, none⟩ (.pointer (some ⟨d, 0, none⟩))).frozen? ⟨b5, 0, none⟩ = false := free_row HY.out.one.2.1 0
            refine wpAnyH_ready (rs := [12]) (by kernel_rfl) (by simp) ?_
            refine AllReadyH.cons (o := { dst := none, op := Go.Op.store 27 (Go.Operand.tmp 14) (Go.Operand.tmp 51), type := 0, pos := "outright.go:20", after := #[{ on := 10, ground := Go.Ground.data }, { on := 7, ground := Go.Ground.data }, { on := 5, ground := Go.Ground.chain }, { on := 0, ground := Go.Ground.phase }, { on := 1, ground := Go.Ground.phase }, { on := 2, ground := Go.Ground.phase }, { on := 3, ground := Go.Ground.phase }, { on := 4, ground := Go.Ground.phase }, { on := 5, ground := Go.Ground.phase }, { on := 6, ground := Go.Ground.phase }, { on := 7, ground := Go.Ground.phase }, { on := 8, ground := Go.Ground.textOnly Go.Departure.lateStores }, { on := 9, ground := Go.Ground.textOnly Go.Departure.lateStores }, { on := 10, ground := Go.Ground.phase }, { on := 11, ground := Go.Ground.phase }], guard := none }) rfl (fun K hK => ?_) ?_
            rotate_left
            · exact AllReadyH.nil
            go_simp
            refine hK.out _ _ ?_ (fun hHeld => ?_)
            · ((try dsimp only); first | with_reducible exact hJ | with_reducible exact HKf.out _ (gn_alloc G.out _) | with_reducible exact HKf.out _ (gn_drew (gn_alloc G.out _)) | with_reducible exact hJ1 | with_reducible exact hJ2 | with_reducible exact hJ0 | exact hJ2)
            clear hK K
            try simp only [Act.put, List.setIfInBounds_toArray, List.set_cons_zero, List.set_cons_succ]
            refine wpAnyH_ready (rs := [13]) (by kernel_rfl) (by simp) ?_
            refine AllReadyH.cons (o := { dst := none, op := Go.Op.store 3 (Go.Operand.tmp 15) (Go.Operand.tmp 52), type := 0, pos := "outright.go:20", after := #[{ on := 11, ground := Go.Ground.data }, { on := 8, ground := Go.Ground.data }, { on := 12, ground := Go.Ground.chain }, { on := 0, ground := Go.Ground.phase }, { on := 1, ground := Go.Ground.phase }, { on := 2, ground := Go.Ground.phase }, { on := 3, ground := Go.Ground.phase }, { on := 4, ground := Go.Ground.phase }, { on := 5, ground := Go.Ground.phase }, { on := 6, ground := Go.Ground.phase }, { on := 7, ground := Go.Ground.phase }, { on := 8, ground := Go.Ground.phase }, { on := 9, ground := Go.Ground.textOnly Go.Departure.lateStores }, { on := 10, ground := Go.Ground.phase }, { on := 11, ground := Go.Ground.phase }, { on := 12, ground := Go.Ground.phase }], guard := none }) rfl (fun K hK => ?_) ?_
            rotate_left
            · exact AllReadyH.nil
            go_simp
            refine hK.out _ _ ?_ (fun hHeld => ?_)
            · ((try dsimp only); first | with_reducible exact hJ | with_reducible exact HKf.out _ (gn_alloc G.out _) | with_reducible exact HKf.out _ (gn_drew (gn_alloc G.out _)) | with_reducible exact hJ1 | with_reducible exact hJ2 | with_reducible exact hJ0 | exact hJ2)
            clear hK K
            try simp only [Act.put, List.setIfInBounds_toArray, List.set_cons_zero, List.set_cons_succ]
            refine wpAnyH_take (i := 14) (oi := { dst := some 16, op := Go.Op.assign (Go.Operand.tmp 53), type := 24, pos := "outright.go:20", after := #[{ on := 9, ground := Go.Ground.data }, { on := 13, ground := Go.Ground.chain }, { on := 0, ground := Go.Ground.phase }, { on := 1, ground := Go.Ground.phase }, { on := 2, ground := Go.Ground.phase }, { on := 3, ground := Go.Ground.phase }, { on := 4, ground := Go.Ground.phase }, { on := 5, ground := Go.Ground.phase }, { on := 6, ground := Go.Ground.phase }, { on := 7, ground := Go.Ground.phase }, { on := 8, ground := Go.Ground.phase }, { on := 9, ground := Go.Ground.phase }, { on := 10, ground := Go.Ground.phase }, { on := 11, ground := Go.Ground.phase }, { on := 12, ground := Go.Ground.phase }, { on := 13, ground := Go.Ground.phase }], guard := none }) (v := ?_) rfl (by kernel_rfl) (by kernel_rfl) (by kernel_rfl) (fun _ _ _ h => h) (Or.inl ⟨by rfl, ?_⟩) (by assumption) ?_
            rotate_left
            · (intro w hSw; (try dsimp only at hSw); (go_simp <;> with_reducible rfl))
            try simp only [Act.put, List.setIfInBounds_toArray, List.set_cons_zero, List.set_cons_succ]
            refine wpAnyH_done (by kernel_rfl) ?_ _
            refine NoPanic.normal ?_
            go_wp2
            go_meet
            case rel => exact ⟨_, _, _, _, rfl, rfl, rfl, HZ.out⟩
          refine AllReadyH.cons (o := { dst := some 15, op := Go.Op.alloc 3, type := 0, pos := "outright.go:20", after := #[], guard := none }) rfl (fun K hK => ?_) ?_
          · skip
            go_simp
            refine hK.out _ _ ?_ (fun hHeld => ?_)
            · ((try dsimp only); first | with_reducible exact hJ | with_reducible exact HKf.out _ (gn_alloc G.out _) | with_reducible exact HKf.out _ (gn_drew (gn_alloc G.out _)) | with_reducible exact hJ1 | with_reducible exact hJ2 | with_reducible exact hJ0 | exact hJ2)
            clear hK K
            try simp only [Act.put, List.setIfInBounds_toArray, List.set_cons_zero, List.set_cons_succ]
            obtain ⟨wx10, hnw⟩ : ∃ wx10, wx7.alloc (.cells #[.int .i64 0] 3) = wx10 := ⟨_, rfl⟩
            obtain ⟨b5, hnb⟩ : ∃ b5, wx7.heap.size = b5 := ⟨_, rfl⟩
            have HB5 : Hid (wx10.heap[b5]? = some (.cells [Value.int .i64 0].toArray 3 (0, 0))) := by rw [← hnw, ← hnb]; exact heap_alloc_new wx7 _
            have HG5 : Hid (wb.heap.size ≤ b5) := by rw [← hnb]; exact grownBy_size G.out
            have HB4 : Hid (wx10.heap[b4]? = some (.cells [Value.pointer none].toArray 27 (0, 0))) := by rw [← hnw]; exact keep1 _ _ HB4.out
            have HR2 : Hid (Rw wx10 wb.heap.size so2 c2 (h.take k)) := by rw [← hnw]; exact HR2.out.then (grown_alloc _ _)
            have G : Hid (wb.grownBy wx10 none) := by rw [← hnw]; exact gn_alloc G.out _
            have hJ := HKf.out _ G.out
            rw [hnw, hnb]
            clear hnw hnb
            refine wpAnyH_ready (rs := [5]) (by kernel_rfl) (by simp) ?_
            refine AllReadyH.cons (o := { dst := some 50, op := Go.Op.call { callee := Go.Callee.value (Go.Operand.func 10), args := #[Go.Operand.tmp 45, Go.Operand.tmp 49], argTypes := #[23, 48] }, type := 43, pos := "outright.go:20", after := #[{ on := 0, ground := Go.Ground.data }, { on := 4, ground := Go.Ground.data }, { on := 4, ground := Go.Ground.chain }], guard := none }) rfl (fun K hK => ?_) ?_
            rotate_left
            · exact AllReadyH.nil
            go_simp
            refine (HOf2.out _ _ _ G.out HR2.out).mono ?_
            rintro e wx11 ⟨d, p, rfl, hL, gx⟩
            have HN4 : Hid (¬ p.own b4) := fun e => by have h1 := hL.own _ e; have h2 := row_lt HB4.out; exact absurd h2 (Nat.not_lt.2 h1)
            have HN5 : Hid (¬ p.own b5) := fun e => by have h1 := hL.own _ e; have h2 := row_lt HB5.out; exact absurd h2 (Nat.not_lt.2 h1)
            have HB4 := hide ((gx.block _ (row_lt HB4.out) (by simp)).trans HB4.out)
            have HB5 := hide ((gx.block _ (row_lt HB5.out) (by simp)).trans HB5.out)
            have HL : Hid (Lb wb wx11 d S2 p) := hL.base (grownBy_size G.out)
            have G : Hid (wb.grownBy wx11 none) := grown_trans G.out gx
            have hJ := HKf.out _ G.out
            clear gx hL
            have HY : Hid (Py wb wx11 b4 b5 d S2 p) := ⟨HB4.out, HB5.out, G.out, HL.out, HN4.out, HN5.out, HG4.out, HG5.out⟩
            have HZ := hide (HY.out.two m2)
            have hJ1 := HKf.out _ HY.out.one.2.2.1
            have hJ2 := HKf.out _ HZ.out.gr
            have y4 : wx11.cell? ⟨b4, 0, none⟩ = some (.pointer none) := by have := cell_row HY.out.c4 0; simpa using this
            have z4 : wx11.frozen? ⟨b4, 0, none⟩ = false := free_row HY.out.c4 0
            have y5 : (wx11.setCell ⟨b4, 0, none⟩ (.pointer (some ⟨d, 0, none⟩))).cell? ⟨b5, 0, none⟩ = some (.int .i64 0) := by have := cell_row HY.out.one.2.1 0; simpa using this
            have z5 : (wx11.setCell ⟨b4, 0, none⟩ (.pointer (some ⟨d, 0, none⟩))).frozen? ⟨b5, 0, none⟩ = false := free_row HY.out.one.2.1 0
            go_wp2_with fail
            refine hK.out _ _ ?_ (fun hHeld => ?_)
            · ((try dsimp only); first | with_reducible exact hJ | with_reducible exact HKf.out _ (gn_alloc G.out _) | with_reducible exact HKf.out _ (gn_drew (gn_alloc G.out _)) | with_reducible exact hJ1 | with_reducible exact hJ2 | with_reducible exact hJ0 | exact hJ2)
            clear hK K
            try simp only [Act.put, List.setIfInBounds_toArray, List.set_cons_zero, List.set_cons_succ]
            refine wpAnyH_take (i := 6) (oi := { dst := some 44, op := Go.Op.move (Go.Operand.tmp 50), type := 43, pos := "outright.go:20", after := #[{ on := 5, ground := Go.Ground.data }], guard := none }) (v := ?_) rfl (by kernel_rfl) (by kernel_rfl) (by kernel_rfl) (fun _ _ _ h => h) (Or.inl ⟨by rfl, ?_⟩) (by assumption) ?_
            rotate_left
            · (intro w hSw; (try dsimp only at hSw); (go_simp <;> with_reducible rfl))
            try simp only [Act.put, List.setIfInBounds_toArray, List.set_cons_zero, List.set_cons_succ]
            refine wpAnyH_take (i := 7) (oi := { dst := some 51, op := Go.Op.extract (Go.Operand.tmp 44) 0, type := 27, pos := "outright.go:20", after := #[{ on := 6, ground := Go.Ground.data }], guard := none }) (v := ?_) rfl (by kernel_rfl) (by kernel_rfl) (by kernel_rfl) (fun _ _ _ h => h) (Or.inl ⟨by rfl, ?_⟩) (by assumption) ?_
            rotate_left
            · (intro w hSw; (try dsimp only at hSw); (go_simp <;> with_reducible rfl))
            try simp only [Act.put, List.setIfInBounds_toArray, List.set_cons_zero, List.set_cons_succ]
            refine wpAnyH_take (i := 8) (oi := { dst := some 52, op := Go.Op.extract (Go.Operand.tmp 44) 1, type := 3, pos := "outright.go:20", after := #[{ on := 6, ground := Go.Ground.data }, { on := 12, ground := Go.Ground.gcOnly Go.Departure.lateStores }], guard := none }) (v := ?_) rfl (by kernel_rfl) (by kernel_rfl) (by kernel_rfl) (fun _ _ _ h => h) (Or.inl ⟨by rfl, ?_⟩) (by assumption) ?_
            rotate_left
            · (intro w hSw; (try dsimp only at hSw); (go_simp <;> with_reducible rfl))
            try simp only [Act.put, List.setIfInBounds_toArray, List.set_cons_zero, List.set_cons_succ]
            refine wpAnyH_take (i := 9) (oi := { dst := some 53, op := Go.Op.extract (Go.Operand.tmp 44) 2, type := 24, pos := "outright.go:20", after := #[{ on := 6, ground := Go.Ground.data }, { on := 13, ground := Go.Ground.gcOnly Go.Departure.lateStores }], guard := none }) (v := ?_) rfl (by kernel_rfl) (by kernel_rfl) (by kernel_rfl) (fun _ _ _ h => h) (Or.inl ⟨by rfl, ?_⟩) (by assumption) ?_
            rotate_left
            · (intro w hSw; (try dsimp only at hSw); (go_simp <;> with_reducible rfl))
            try simp only [Act.put, List.setIfInBounds_toArray, List.set_cons_zero, List.set_cons_succ]
            refine wpAnyH_ready (rs := [12]) (by kernel_rfl) (by simp) ?_
            refine AllReadyH.cons (o := { dst := none, op := Go.Op.store 27 (Go.Operand.tmp 14) (Go.Operand.tmp 51), type := 0, pos := "outright.go:20", after := #[{ on := 10, ground := Go.Ground.data }, { on := 7, ground := Go.Ground.data }, { on := 5, ground := Go.Ground.chain }, { on := 0, ground := Go.Ground.phase }, { on := 1, ground := Go.Ground.phase }, { on := 2, ground := Go.Ground.phase }, { on := 3, ground := Go.Ground.phase }, { on := 4, ground := Go.Ground.phase }, { on := 5, ground := Go.Ground.phase }, { on := 6, ground := Go.Ground.phase }, { on := 7, ground := Go.Ground.phase }, { on := 8, ground := Go.Ground.textOnly Go.Departure.lateStores }, { on := 9, ground := Go.Ground.textOnly Go.Departure.lateStores }, { on := 10, ground := Go.Ground.phase }, { on := 11, ground := Go.Ground.phase }], guard := none }) rfl (fun K hK => ?_) ?_
            rotate_left
            · exact AllReadyH.nil
            go_simp
            refine hK.out _ _ ?_ (fun hHeld => ?_)
            · ((try dsimp only); first | with_reducible exact hJ | with_reducible exact HKf.out _ (gn_alloc G.out _) | with_reducible exact HKf.out _ (gn_drew (gn_alloc G.out _)) | with_reducible exact hJ1 | with_reducible exact hJ2 | with_reducible exact hJ0 | exact hJ2)
            clear hK K
            try simp only [Act.put, List.setIfInBounds_toArray, List.set_cons_zero, List.set_cons_succ]
            refine wpAnyH_ready (rs := [13]) (by kernel_rfl) (by simp) ?_
            refine AllReadyH.cons (o := { dst := none, op := Go.Op.store 3 (Go.Operand.tmp 15) (Go.Operand.tmp 52), type := 0, pos := "outright.go:20", after := #[{ on := 11, ground := Go.Ground.data }, { on := 8, ground := Go.Ground.data }, { on := 12, ground := Go.Ground.chain }, { on := 0, ground := Go.Ground.phase }, { on := 1, ground := Go.Ground.phase }, { on := 2, ground := Go.Ground.phase }, { on := 3, ground := Go.Ground.phase }, { on := 4, ground := Go.Ground.phase }, { on := 5, ground := Go.Ground.phase }, { on := 6, ground := Go.Ground.phase }, { on := 7, ground := Go.Ground.phase }, { on := 8, ground := Go.Ground.phase }, { on := 9, ground := Go.Ground.textOnly Go.Departure.lateStores }, { on := 10, ground := Go.Ground.phase }, { on := 11, ground := Go.Ground.phase }, { on := 12, ground := Go.Ground.phase }], guard := none }) rfl (fun K hK => ?_) ?_
            rotate_left
            · exact AllReadyH.nil
            go_simp
            refine hK.out _ _ ?_ (fun hHeld => ?_)
            · ((try dsimp only); first | with_reducible exact hJ | with_reducible exact HKf.out _ (gn_alloc G.out _) | with_reducible exact HKf.out _ (gn_drew (gn_alloc G.out _)) | with_reducible exact hJ1 | with_reducible exact hJ2 | with_reducible exact hJ0 | exact hJ2)
            clear hK K
            try simp only [Act.put, List.setIfInBounds_toArray, List.set_cons_zero, List.set_cons_succ]
            refine wpAnyH_take (i := 14) (oi := { dst := some 16, op := Go.Op.assign (Go.Operand.tmp 53), type := 24, pos := "outright.go:20", after := #[{ on := 9, ground := Go.Ground.data }, { on := 13, ground := Go.Ground.chain }, { on := 0, ground := Go.Ground.phase }, { on := 1, ground := Go.Ground.phase }, { on := 2, ground := Go.Ground.phase }, { on := 3, ground := Go.Ground.phase }, { on := 4, ground := Go.Ground.phase }, { on := 5, ground := Go.Ground.phase }, { on := 6, ground := Go.Ground.phase }, { on := 7, ground := Go.Ground.phase }, { on := 8, ground := Go.Ground.phase }, { on := 9, ground := Go.Ground.phase }, { on := 10, ground := Go.Ground.phase }, { on := 11, ground := Go.Ground.phase }, { on := 12, ground := Go.Ground.phase }, { on := 13, ground := Go.Ground.phase }], guard := none }) (v := ?_) rfl (by kernel_rfl) (by kernel_rfl) (by kernel_rfl) (fun _ _ _ h => h) (Or.inl ⟨by rfl, ?_⟩) (by assumption) ?_
            rotate_left
            · (intro w hSw; (try dsimp only at hSw); (go_simp <;> with_reducible rfl))
            try simp only [Act.put, List.setIfInBounds_toArray, List.set_cons_zero, List.set_cons_succ]
            refine wpAnyH_done (by kernel_rfl) ?_ _
            refine NoPanic.normal ?_
            go_wp2
            go_meet
            case rel => exact ⟨_, _, _, _, rfl, rfl, rfl, HZ.out⟩
          exact AllReadyH.nil
        refine AllReadyH.cons (o := { dst := some 15, op := Go.Op.alloc 3, type := 0, pos := "outright.go:20", after := #[], guard := none }) rfl (fun K hK => ?_) ?_
        · skip
          go_simp
          refine hK.out _ _ ?_ (fun hHeld => ?_)
          · ((try dsimp only); first | with_reducible exact hJ | with_reducible exact HKf.out _ (gn_alloc G.out _) | with_reducible exact HKf.out _ (gn_drew (gn_alloc G.out _)) | with_reducible exact hJ1 | with_reducible exact hJ2 | with_reducible exact hJ0 | exact hJ2)
          clear hK K
          try simp only [Act.put, List.setIfInBounds_toArray, List.set_cons_zero, List.set_cons_succ]
          obtain ⟨wx12, hnw⟩ : ∃ wx12, wx1.alloc (.cells #[.int .i64 0] 3) = wx12 := ⟨_, rfl⟩
          obtain ⟨b5, hnb⟩ : ∃ b5, wx1.heap.size = b5 := ⟨_, rfl⟩
          have HB5 : Hid (wx12.heap[b5]? = some (.cells [Value.int .i64 0].toArray 3 (0, 0))) := by rw [← hnw, ← hnb]; exact heap_alloc_new wx1 _
          have HG5 : Hid (wb.heap.size ≤ b5) := by rw [← hnb]; exact grownBy_size G.out
          have HR2 : Hid (Rw wx12 wb.heap.size so2 c2 (h.take k)) := by rw [← hnw]; exact HR2.out.then (grown_alloc _ _)
          have G : Hid (wb.grownBy wx12 none) := by rw [← hnw]; exact gn_alloc G.out _
          have hJ := HKf.out _ G.out
          rw [hnw, hnb]
          clear hnw hnb
          refine wpAnyH_ready (rs := [5, 10]) (by kernel_rfl) (by simp) ?_
          refine AllReadyH.cons (o := { dst := some 50, op := Go.Op.call { callee := Go.Callee.value (Go.Operand.func 10), args := #[Go.Operand.tmp 45, Go.Operand.tmp 49], argTypes := #[23, 48] }, type := 43, pos := "outright.go:20", after := #[{ on := 0, ground := Go.Ground.data }, { on := 4, ground := Go.Ground.data }, { on := 4, ground := Go.Ground.chain }], guard := none }) rfl (fun K hK => ?_) ?_
          · skip
            go_simp
            refine (HOf2.out _ _ _ G.out HR2.out).mono ?_
            rintro e wx13 ⟨d, p, rfl, hL, gx⟩
            have HN5 : Hid (¬ p.own b5) := fun e => by have h1 := hL.own _ e; have h2 := row_lt HB5.out; exact absurd h2 (Nat.not_lt.2 h1)
            have HB5 := hide ((gx.block _ (row_lt HB5.out) (by simp)).trans HB5.out)
            have HL : Hid (Lb wb wx13 d S2 p) := hL.base (grownBy_size G.out)
            have G : Hid (wb.grownBy wx13 none) := grown_trans G.out gx
            have hJ := HKf.out _ G.out
            clear gx hL
            go_wp2_with fail
            refine hK.out _ _ ?_ (fun hHeld => ?_)
            · ((try dsimp only); first | with_reducible exact hJ | with_reducible exact HKf.out _ (gn_alloc G.out _) | with_reducible exact HKf.out _ (gn_drew (gn_alloc G.out _)) | with_reducible exact hJ1 | with_reducible exact hJ2 | with_reducible exact hJ0 | exact hJ2)
            clear hK K
            try simp only [Act.put, List.setIfInBounds_toArray, List.set_cons_zero, List.set_cons_succ]
            refine wpAnyH_take (i := 6) (oi := { dst := some 44, op := Go.Op.move (Go.Operand.tmp 50), type := 43, pos := "outright.go:20", after := #[{ on := 5, ground := Go.Ground.data }], guard := none }) (v := ?_) rfl (by kernel_rfl) (by kernel_rfl) (by kernel_rfl) (fun _ _ _ h => h) (Or.inl ⟨by rfl, ?_⟩) (by assumption) ?_
            rotate_left
            · (intro w hSw; (try dsimp only at hSw); (go_simp <;> with_reducible rfl))
            try simp only [Act.put, List.setIfInBounds_toArray, List.set_cons_zero, List.set_cons_succ]
            refine wpAnyH_take (i := 7) (oi := { dst := some 51, op := Go.Op.extract (Go.Operand.tmp 44) 0, type := 27, pos := "outright.go:20", after := #[{ on := 6, ground := Go.Ground.data }], guard := none }) (v := ?_) rfl (by kernel_rfl) (by kernel_rfl) (by kernel_rfl) (fun _ _ _ h => h) (Or.inl ⟨by rfl, ?_⟩) (by assumption) ?_
            rotate_left
            · (intro w hSw; (try dsimp only at hSw); (go_simp <;> with_reducible rfl))
            try simp only [Act.put, List.setIfInBounds_toArray, List.set_cons_zero, List.set_cons_succ]
            refine wpAnyH_take (i := 8) (oi := { dst := some 52, op := Go.Op.extract (Go.Operand.tmp 44) 1, type := 3, pos := "outright.go:20", after := #[{ on := 6, ground := Go.Ground.data }, { on := 12, ground := Go.Ground.gcOnly Go.Departure.lateStores }], guard := none }) (v := ?_) rfl (by kernel_rfl) (by kernel_rfl) (by kernel_rfl) (fun _ _ _ h => h) (Or.inl ⟨by rfl, ?_⟩) (by assumption) ?_
            rotate_left
            · (intro w hSw; (try dsimp only at hSw); (go_simp <;> with_reducible rfl))
            try simp only [Act.put, List.setIfInBounds_toArray, List.set_cons_zero, List.set_cons_succ]
            refine wpAnyH_take (i := 9) (oi := { dst := some 53, op := Go.Op.extract (Go.Operand.tmp 44) 2, type := 24, pos := "outright.go:20", after := #[{ on := 6, ground := Go.Ground.data }, { on := 13, ground := Go.Ground.gcOnly Go.Departure.lateStores }], guard := none }) (v := ?_) rfl (by kernel_rfl) (by kernel_rfl) (by kernel_rfl) (fun _ _ _ h => h) (Or.inl ⟨by rfl, ?_⟩) (by assumption) ?_
            rotate_left
            · (intro w hSw; (try dsimp only at hSw); (go_simp <;> with_reducible rfl))
            try simp only [Act.put, List.setIfInBounds_toArray, List.set_cons_zero, List.set_cons_succ]
            refine wpAnyH_ready (rs := [10]) (by kernel_rfl) (by simp) ?_
            refine AllReadyH.cons (o := { dst := some 14, op := Go.Op.alloc 27, type := 0, pos := "outright.go:20", after := #[], guard := none }) rfl (fun K hK => ?_) ?_
            rotate_left
            · exact AllReadyH.nil
            go_simp
            refine hK.out _ _ ?_ (fun hHeld => ?_)
            · ((try dsimp only); first | with_reducible exact hJ | with_reducible exact HKf.out _ (gn_alloc G.out _) | with_reducible exact HKf.out _ (gn_drew (gn_alloc G.out _)) | with_reducible exact hJ1 | with_reducible exact hJ2 | with_reducible exact hJ0 | exact hJ2)
            clear hK K
            try simp only [Act.put, List.setIfInBounds_toArray, List.set_cons_zero, List.set_cons_succ]
            obtain ⟨wx14, hnw⟩ : ∃ wx14, wx13.alloc (.cells #[.pointer none] 27) = wx14 := ⟨_, rfl⟩
            obtain ⟨b4, hnb⟩ : ∃ b4, wx13.heap.size = b4 := ⟨_, rfl⟩
            have HB4 : Hid (wx14.heap[b4]? = some (.cells [Value.pointer none].toArray 27 (0, 0))) := by rw [← hnw, ← hnb]; exact heap_alloc_new wx13 _
            have HG4 : Hid (wb.heap.size ≤ b4) := by rw [← hnb]; exact grownBy_size G.out
            have HB5 : Hid (wx14.heap[b5]? = some (.cells [Value.int .i64 0].toArray 3 (0, 0))) := by rw [← hnw]; exact keep1 _ _ HB5.out
            have HN4 : Hid (¬ p.own b4) := fun e => by have h1 := HL.out.bk.lt _ e; rw [← hnb] at h1; exact Nat.lt_irrefl _ h1
            have HL : Hid (Lb wb wx14 d S2 p) := by rw [← hnw]; exact HL.out.then (grown_alloc _ _)
            have G : Hid (wb.grownBy wx14 none) := by rw [← hnw]; exact gn_alloc G.out _
            have hJ := HKf.out _ G.out
            rw [hnw, hnb]
            clear hnw hnb
            have HY : Hid (Py wb wx14 b4 b5 d S2 p) := ⟨HB4.out, HB5.out, G.out, HL.out, HN4.out, HN5.out, HG4.out, HG5.out⟩
            have HZ := hide (HY.out.two m2)
            have hJ1 := HKf.out _ HY.out.one.2.2.1
            have hJ2 := HKf.out _ HZ.out.gr
            have y4 : wx14.cell? ⟨b4, 0, none⟩ = some (.pointer none) := by have := cell_row HY.out.c4 0; simpa using this
            have z4 : wx14.frozen? ⟨b4, 0, none⟩ = false := free_row HY.out.c4 0
            have y5 : (wx14.setCell ⟨b4, 0, none⟩ (.pointer (some ⟨d, 0, none⟩))).cell? ⟨b5, 0, none⟩ = some (.int .i64 0) := by have := cell_row HY.out.one.2.1 0; simpa using this
            have z5 : (wx14.setCell ⟨b4, 0, none⟩ (.pointer (some ⟨d, 0, none⟩))).frozen? ⟨b5, 0, none⟩ = false := free_row HY.out.one.2.1 0
            refine wpAnyH_ready (rs := [12]) (by kernel_rfl) (by simp) ?_
            refine AllReadyH.cons (o := { dst := none, op := Go.Op.store 27 (Go.Operand.tmp 14) (Go.Operand.tmp 51), type := 0, pos := "outright.go:20", after := #[{ on := 10, ground := Go.Ground.data }, { on := 7, ground := Go.Ground.data }, { on := 5, ground := Go.Ground.chain }, { on := 0, ground := Go.Ground.phase }, { on := 1, ground := Go.Ground.phase }, { on := 2, ground := Go.Ground.phase }, { on := 3, ground := Go.Ground.phase }, { on := 4, ground := Go.Ground.phase }, { on := 5, ground := Go.Ground.phase }, { on := 6, ground := Go.Ground.phase }, { on := 7, ground := Go.Ground.phase }, { on := 8, ground := Go.Ground.textOnly Go.Departure.lateStores }, { on := 9, ground := Go.Ground.textOnly Go.Departure.lateStores }, { on := 10, ground := Go.Ground.phase }, { on := 11, ground := Go.Ground.phase }], guard := none }) rfl (fun K hK => ?_) ?_
            rotate_left
            · exact AllReadyH.nil
            go_simp
            refine hK.out _ _ ?_ (fun hHeld => ?_)
            · ((try dsimp only); first | with_reducible exact hJ | with_reducible exact HKf.out _ (gn_alloc G.out _) | with_reducible exact HKf.out _ (gn_drew (gn_alloc G.out _)) | with_reducible exact hJ1 | with_reducible exact hJ2 | with_reducible exact hJ0 | exact hJ2)
            clear hK K
            try simp only [Act.put, List.setIfInBounds_toArray, List.set_cons_zero, List.set_cons_succ]
            refine wpAnyH_ready (rs := [13]) (by kernel_rfl) (by simp) ?_
            refine AllReadyH.cons (o := { dst := none, op := Go.Op.store 3 (Go.Operand.tmp 15) (Go.Operand.tmp 52), type := 0, pos := "outright.go:20", after := #[{ on := 11, ground := Go.Ground.data }, { on := 8, ground := Go.Ground.data }, { on := 12, ground := Go.Ground.chain }, { on := 0, ground := Go.Ground.phase }, { on := 1, ground := Go.Ground.phase }, { on := 2, ground := Go.Ground.phase }, { on := 3, ground := Go.Ground.phase }, { on := 4, ground := Go.Ground.phase }, { on := 5, ground := Go.Ground.phase }, { on := 6, ground := Go.Ground.phase }, { on := 7, ground := Go.Ground.phase }, { on := 8, ground := Go.Ground.phase }, { on := 9, ground := Go.Ground.textOnly Go.Departure.lateStores }, { on := 10, ground := Go.Ground.phase }, { on := 11, ground := Go.Ground.phase }, { on := 12, ground := Go.Ground.phase }], guard := none }) rfl (fun K hK => ?_) ?_
            rotate_left
            · exact AllReadyH.nil
            go_simp
            refine hK.out _ _ ?_ (fun hHeld => ?_)
            · ((try dsimp only); first | with_reducible exact hJ | with_reducible exact HKf.out _ (gn_alloc G.out _) | with_reducible exact HKf.out _ (gn_drew (gn_alloc G.out _)) | with_reducible exact hJ1 | with_reducible exact hJ2 | with_reducible exact hJ0 | exact hJ2)
            clear hK K
            try simp only [Act.put, List.setIfInBounds_toArray, List.set_cons_zero, List.set_cons_succ]
            refine wpAnyH_take (i := 14) (oi := { dst := some 16, op := Go.Op.assign (Go.Operand.tmp 53), type := 24, pos := "outright.go:20", after := #[{ on := 9, ground := Go.Ground.data }, { on := 13, ground := Go.Ground.chain }, { on := 0, ground := Go.Ground.phase }, { on := 1, ground := Go.Ground.phase }, { on := 2, ground := Go.Ground.phase }, { on := 3, ground := Go.Ground.phase }, { on := 4, ground := Go.Ground.phase }, { on := 5, ground := Go.Ground.phase }, { on := 6, ground := Go.Ground.phase }, { on := 7, ground := Go.Ground.phase }, { on := 8, ground := Go.Ground.phase }, { on := 9, ground := Go.Ground.phase }, { on := 10, ground := Go.Ground.phase }, { on := 11, ground := Go.Ground.phase }, { on := 12, ground := Go.Ground.phase }, { on := 13, ground := Go.Ground.phase }], guard := none }) (v := ?_) rfl (by kernel_rfl) (by kernel_rfl) (by kernel_rfl) (fun _ _ _ h => h) (Or.inl ⟨by rfl, ?_⟩) (by assumption) ?_
            rotate_left
            · (intro w hSw; (try dsimp only at hSw); (go_simp <;> with_reducible rfl))
            try simp only [Act.put, List.setIfInBounds_toArray, List.set_cons_zero, List.set_cons_succ]
            refine wpAnyH_done (by kernel_rfl) ?_ _
            refine NoPanic.normal ?_
            go_wp2
            go_meet
            case rel => exact ⟨_, _, _, _, rfl, rfl, rfl, HZ.out⟩
          refine AllReadyH.cons (o := { dst := some 14, op := Go.Op.alloc 27, type := 0, pos := "outright.go:20", after := #[], guard := none }) rfl (fun K hK => ?_) ?_
          · skip
            go_simp
            refine hK.out _ _ ?_ (fun hHeld => ?_)
            · ((try dsimp only); first | with_reducible exact hJ | with_reducible exact HKf.out _ (gn_alloc G.out _) | with_reducible exact HKf.out _ (gn_drew (gn_alloc G.out _)) | with_reducible exact hJ1 | with_reducible exact hJ2 | with_reducible exact hJ0 | exact hJ2)
            clear hK K
            try simp only [Act.put, List.setIfInBounds_toArray, List.set_cons_zero, List.set_cons_succ]
            obtain ⟨wx15, hnw⟩ : ∃ wx15, wx12.alloc (.cells #[.pointer none] 27) = wx15 := ⟨_, rfl⟩
            obtain ⟨b4, hnb⟩ : ∃ b4, wx12.heap.size = b4 := ⟨_, rfl⟩
            have HB4 : Hid (wx15.heap[b4]? = some (.cells [Value.pointer none].toArray 27 (0, 0))) := by rw [← hnw, ← hnb]; exact heap_alloc_new wx12 _
            have HG4 : Hid (wb.heap.size ≤ b4) := by rw [← hnb]; exact grownBy_size G.out
            have HB5 : Hid (wx15.heap[b5]? = some (.cells [Value.int .i64 0].toArray 3 (0, 0))) := by rw [← hnw]; exact keep1 _ _ HB5.out
            have HR2 : Hid (Rw wx15 wb.heap.size so2 c2 (h.take k)) := by rw [← hnw]; exact HR2.out.then (grown_alloc _ _)
            have G : Hid (wb.grownBy wx15 none) := by rw [← hnw]; exact gn_alloc G.out _
            have hJ := HKf.out _ G.out
            rw [hnw, hnb]
            clear hnw hnb
            refine wpAnyH_ready (rs := [5]) (by kernel_rfl) (by simp) ?_
            refine AllReadyH.cons (o := { dst := some 50, op := Go.Op.call { callee := Go.Callee.value (Go.Operand.func 10), args := #[Go.Operand.tmp 45, Go.Operand.tmp 49], argTypes := #[23, 48] }, type := 43, pos := "outright.go:20", after := #[{ on := 0, ground := Go.Ground.data }, { on := 4, ground := Go.Ground.data }, { on := 4, ground := Go.Ground.chain }], guard := none }) rfl (fun K hK => ?_) ?_
            rotate_left
            · exact AllReadyH.nil
            go_simp
            refine (HOf2.out _ _ _ G.out HR2.out).mono ?_
            rintro e wx16 ⟨d, p, rfl, hL, gx⟩
            have HN5 : Hid (¬ p.own b5) := fun e => by have h1 := hL.own _ e; have h2 := row_lt HB5.out; exact absurd h2 (Nat.not_lt.2 h1)
            have HN4 : Hid (¬ p.own b4) := fun e => by have h1 := hL.own _ e; have h2 := row_lt HB4.out; exact absurd h2 (Nat.not_lt.2 h1)
            have HB5 := hide ((gx.block _ (row_lt HB5.out) (by simp)).trans HB5.out)
            have HB4 := hide ((gx.block _ (row_lt HB4.out) (by simp)).trans HB4.out)
            have HL : Hid (Lb wb wx16 d S2 p) := hL.base (grownBy_size G.out)
            have G : Hid (wb.grownBy wx16 none) := grown_trans G.out gx
            have hJ := HKf.out _ G.out
            clear gx hL
            have HY : Hid (Py wb wx16 b4 b5 d S2 p) := ⟨HB4.out, HB5.out, G.out, HL.out, HN4.out, HN5.out, HG4.out, HG5.out⟩
            have HZ := hide (HY.out.two m2)
            have hJ1 := HKf.out _ HY.out.one.2.2.1
            have hJ2 := HKf.out _ HZ.out.gr
            have y4 : wx16.cell? ⟨b4, 0, none⟩ = some (.pointer none) := by have := cell_row HY.out.c4 0; simpa using this
            have z4 : wx16.frozen? ⟨b4, 0, none⟩ = false := free_row HY.out.c4 0
            have y5 : (wx16.setCell ⟨b4, 0, none⟩ (.pointer (some ⟨d, 0, none⟩))).cell? ⟨b5, 0, none⟩ = some (.int .i64 0) := by have := cell_row HY.out.one.2.1 0; simpa using this
            have z5 : (wx16.setCell ⟨b4, 0, none⟩ (.pointer (some ⟨d, 0, none⟩))).frozen? ⟨b5, 0, none⟩ = false := free_row HY.out.one.2.1 0
            go_wp2_with fail
            refine hK.out _ _ ?_ (fun hHeld => ?_)
            · ((try dsimp only); first | with_reducible exact hJ | with_reducible exact HKf.out _ (gn_alloc G.out _) | with_reducible exact HKf.out _ (gn_drew (gn_alloc G.out _)) | with_reducible exact hJ1 | with_reducible exact hJ2 | with_reducible exact hJ0 | exact hJ2)
            clear hK K
            try simp only [Act.put, List.setIfInBounds_toArray, List.set_cons_zero, List.set_cons_succ]
            refine wpAnyH_take (i := 6) (oi := { dst := some 44, op := Go.Op.move (Go.Operand.tmp 50), type := 43, pos := "outright.go:20", after := #[{ on := 5, ground := Go.Ground.data }], guard := none }) (v := ?_) rfl (by kernel_rfl) (by kernel_rfl) (by kernel_rfl) (fun _ _ _ h => h) (Or.inl ⟨by rfl, ?_⟩) (by assumption) ?_
            rotate_left
            · (intro w hSw; (try dsimp only at hSw); (go_simp <;> with_reducible rfl))
            try simp only [Act.put, List.setIfInBounds_toArray, List.set_cons_zero, List.set_cons_succ]
            refine wpAnyH_take (i := 7) (oi := { dst := some 51, op := Go.Op.extract (Go.Operand.tmp 44) 0, type := 27, pos := "outright.go:20", after := #[{ on := 6, ground := Go.Ground.data }], guard := none }) (v := ?_) rfl (by kernel_rfl) (by kernel_rfl) (by kernel_rfl) (fun _ _ _ h => h) (Or.inl ⟨by rfl, ?_⟩) (by assumption) ?_
            rotate_left
            · (intro w hSw; (try dsimp only at hSw); (go_simp <;> with_reducible rfl))
            try simp only [Act.put, List.setIfInBounds_toArray, List.set_cons_zero, List.set_cons_succ]
            refine wpAnyH_take (i := 8) (oi := { dst := some 52, op := Go.Op.extract (Go.Operand.tmp 44) 1, type := 3, pos := "outright.go:20", after := #[{ on := 6, ground := Go.Ground.data }, { on := 12, ground := Go.Ground.gcOnly Go.Departure.lateStores }], guard := none }) (v := ?_) rfl (by kernel_rfl) (by kernel_rfl) (by kernel_rfl) (fun _ _ _ h => h) (Or.inl ⟨by rfl, ?_⟩) (by assumption) ?_
            rotate_left
            · (intro w hSw; (try dsimp only at hSw); (go_simp <;> with_reducible rfl))
            try simp only [Act.put, List.setIfInBounds_toArray, List.set_cons_zero, List.set_cons_succ]
            refine wpAnyH_take (i := 9) (oi := { dst := some 53, op := Go.Op.extract (Go.Operand.tmp 44) 2, type := 24, pos := "outright.go:20", after := #[{ on := 6, ground := Go.Ground.data }, { on := 13, ground := Go.Ground.gcOnly Go.Departure.lateStores }], guard := none }) (v := ?_) rfl (by kernel_rfl) (by kernel_rfl) (by kernel_rfl) (fun _ _ _ h => h) (Or.inl ⟨by rfl, ?_⟩) (by assumption) ?_
            rotate_left
            · (intro w hSw; (try dsimp only at hSw); (go_simp <;> with_reducible rfl))
            try simp only [Act.put, List.setIfInBounds_toArray, List.set_cons_zero, List.set_cons_succ]
            refine wpAnyH_ready (rs := [12]) (by kernel_rfl) (by simp) ?_
            refine AllReadyH.cons (o := { dst := none, op := Go.Op.store 27 (Go.Operand.tmp 14) (Go.Operand.tmp 51), type := 0, pos := "outright.go:20", after := #[{ on := 10, ground := Go.Ground.data }, { on := 7, ground := Go.Ground.data }, { on := 5, ground := Go.Ground.chain }, { on := 0, ground := Go.Ground.phase }, { on := 1, ground := Go.Ground.phase }, { on := 2, ground := Go.Ground.phase }, { on := 3, ground := Go.Ground.phase }, { on := 4, ground := Go.Ground.phase }, { on := 5, ground := Go.Ground.phase }, { on := 6, ground := Go.Ground.phase }, { on := 7, ground := Go.Ground.phase }, { on := 8, ground := Go.Ground.textOnly Go.Departure.lateStores }, { on := 9, ground := Go.Ground.textOnly Go.Departure.lateStores }, { on := 10, ground := Go.Ground.phase }, { on := 11, ground := Go.Ground.phase }], guard := none }) rfl (fun K hK => ?_) ?_
            rotate_left
            · exact AllReadyH.nil
            go_simp
            refine hK.out _ _ ?_ (fun hHeld => ?_)
            · ((try dsimp only); first | with_reducible exact hJ | with_reducible exact HKf.out _ (gn_alloc G.out _) | with_reducible exact HKf.out _ (gn_drew (gn_alloc G.out _)) | with_reducible exact hJ1 | with_reducible exact hJ2 | with_reducible exact hJ0 | exact hJ2)
            clear hK K
            try simp only [Act.put, List.setIfInBounds_toArray, List.set_cons_zero, List.set_cons_succ]
            refine wpAnyH_ready (rs := [13]) (by kernel_rfl) (by simp) ?_
            refine AllReadyH.cons (o := { dst := none, op := Go.Op.store 3 (Go.Operand.tmp 15) (Go.Operand.tmp 52), type := 0, pos := "outright.go:20", after := #[{ on := 11, ground := Go.Ground.data }, { on := 8, ground := Go.Ground.data }, { on := 12, ground := Go.Ground.chain }, { on := 0, ground := Go.Ground.phase }, { on := 1, ground := Go.Ground.phase }, { on := 2, ground := Go.Ground.phase }, { on := 3, ground := Go.Ground.phase }, { on := 4, ground := Go.Ground.phase }, { on := 5, ground := Go.Ground.phase }, { on := 6, ground := Go.Ground.phase }, { on := 7, ground := Go.Ground.phase }, { on := 8, ground := Go.Ground.phase }, { on := 9, ground := Go.Ground.textOnly Go.Departure.lateStores }, { on := 10, ground := Go.Ground.phase }, { on := 11, ground := Go.Ground.phase }, { on := 12, ground := Go.Ground.phase }], guard := none }) rfl (fun K hK => ?_) ?_
            rotate_left
            · exact AllReadyH.nil
            go_simp
            refine hK.out _ _ ?_ (fun hHeld => ?_)
            · ((try dsimp only); first | with_reducible exact hJ | with_reducible exact HKf.out _ (gn_alloc G.out _) | with_reducible exact HKf.out _ (gn_drew (gn_alloc G.out _)) | with_reducible exact hJ1 | with_reducible exact hJ2 | with_reducible exact hJ0 | exact hJ2)
            clear hK K
            try simp only [Act.put, List.setIfInBounds_toArray, List.set_cons_zero, List.set_cons_succ]
            refine wpAnyH_take (i := 14) (oi := { dst := some 16, op := Go.Op.assign (Go.Operand.tmp 53), type := 24, pos := "outright.go:20", after := #[{ on := 9, ground := Go.Ground.data }, { on := 13, ground := Go.Ground.chain }, { on := 0, ground := Go.Ground.phase }, { on := 1, ground := Go.Ground.phase }, { on := 2, ground := Go.Ground.phase }, { on := 3, ground := Go.Ground.phase }, { on := 4, ground := Go.Ground.phase }, { on := 5, ground := Go.Ground.phase }, { on := 6, ground := Go.Ground.phase }, { on := 7, ground := Go.Ground.phase }, { on := 8, ground := Go.Ground.phase }, { on := 9, ground := Go.Ground.phase }, { on := 10, ground := Go.Ground.phase }, { on := 11, ground := Go.Ground.phase }, { on := 12, ground := Go.Ground.phase }, { on := 13, ground := Go.Ground.phase }], guard := none }) (v := ?_) rfl (by kernel_rfl) (by kernel_rfl) (by kernel_rfl) (fun _ _ _ h => h) (Or.inl ⟨by rfl, ?_⟩) (by assumption) ?_
            rotate_left
            · (intro w hSw; (try dsimp only at hSw); (go_simp <;> with_reducible rfl))
            try simp only [Act.put, List.setIfInBounds_toArray, List.set_cons_zero, List.set_cons_succ]
            refine wpAnyH_done (by kernel_rfl) ?_ _
            refine NoPanic.normal ?_
            go_wp2
            go_meet
            case rel => exact ⟨_, _, _, _, rfl, rfl, rfl, HZ.out⟩
          exact AllReadyH.nil
        exact AllReadyH.nil
      refine AllReadyH.cons (o := { dst := some 14, op := Go.Op.alloc 27, type := 0, pos := "outright.go:20", after := #[], guard := none }) rfl (fun K hK => ?_) ?_
      · skip
        go_simp
        refine hK.out _ _ ?_ (fun hHeld => ?_)
        · ((try dsimp only); first | with_reducible exact hJ | with_reducible exact HKf.out _ (gn_alloc G.out _) | with_reducible exact HKf.out _ (gn_drew (gn_alloc G.out _)) | with_reducible exact hJ1 | with_reducible exact hJ2 | with_reducible exact hJ0 | exact hJ2)
        clear hK K
        try simp only [Act.put, List.setIfInBounds_toArray, List.set_cons_zero, List.set_cons_succ]
        obtain ⟨wx17, hnw⟩ : ∃ wx17, wb.alloc (.cells #[.pointer none] 27) = wx17 := ⟨_, rfl⟩
        obtain ⟨b4, hnb⟩ : ∃ b4, wb.heap.size = b4 := ⟨_, rfl⟩
        have HB4 : Hid (wx17.heap[b4]? = some (.cells [Value.pointer none].toArray 27 (0, 0))) := by rw [← hnw, ← hnb]; exact heap_alloc_new wb _
        have HG4 : Hid (wb.heap.size ≤ b4) := by rw [← hnb]; exact grownBy_size G.out
        have G : Hid (wb.grownBy wx17 none) := by rw [← hnw]; exact gn_alloc G.out _
        have hJ := HKf.out _ (gn_drew G.out)
        rw [hnw, hnb]
        clear hnw hnb
        refine wpAnyH_ready (rs := [4, 11]) (by kernel_rfl) (by simp) ?_
        refine AllReadyH.cons (o := { dst := some 49, op := Go.Op.call { callee := Go.Callee.value (Go.Operand.func 33), args := #[Go.Operand.tmp 48], argTypes := #[48] }, type := 48, pos := "outright.go:20", after := #[{ on := 3, ground := Go.Ground.data }], guard := none }) rfl (fun K hK => ?_) ?_
        · skip
          go_simp
          refine (HCp.out _ (gn_drew G.out)).mono ?_
          rintro e wx18 ⟨so2, c2, rfl, hR2, gx⟩
          have HR2 := hide hR2
          have HB4 := hide ((gx.block _ (row_lt HB4.out) (by simp)).trans HB4.out)
          have G : Hid (wb.grownBy wx18 none) := grown_trans (gn_drew G.out) gx
          have hJ := HKf.out _ G.out
          clear gx hR2
          go_wp2_with fail
          refine hK.out _ _ ?_ (fun hHeld => ?_)
          · ((try dsimp only); first | with_reducible exact hJ | with_reducible exact HKf.out _ (gn_alloc G.out _) | with_reducible exact HKf.out _ (gn_drew (gn_alloc G.out _)) | with_reducible exact hJ1 | with_reducible exact hJ2 | with_reducible exact hJ0 | exact hJ2)
          clear hK K
          try simp only [Act.put, List.setIfInBounds_toArray, List.set_cons_zero, List.set_cons_succ]
          refine wpAnyH_ready (rs := [5, 11]) (by kernel_rfl) (by simp) ?_
          refine AllReadyH.cons (o := { dst := some 50, op := Go.Op.call { callee := Go.Callee.value (Go.Operand.func 10), args := #[Go.Operand.tmp 45, Go.Operand.tmp 49], argTypes := #[23, 48] }, type := 43, pos := "outright.go:20", after := #[{ on := 0, ground := Go.Ground.data }, { on := 4, ground := Go.Ground.data }, { on := 4, ground := Go.Ground.chain }], guard := none }) rfl (fun K hK => ?_) ?_
          · skip
            go_simp
            refine (HOf2.out _ _ _ G.out HR2.out).mono ?_
            rintro e wx19 ⟨d, p, rfl, hL, gx⟩
            have HN4 : Hid (¬ p.own b4) := fun e => by have h1 := hL.own _ e; have h2 := row_lt HB4.out; exact absurd h2 (Nat.not_lt.2 h1)
            have HB4 := hide ((gx.block _ (row_lt HB4.out) (by simp)).trans HB4.out)
            have HL : Hid (Lb wb wx19 d S2 p) := hL.base (grownBy_size G.out)
            have G : Hid (wb.grownBy wx19 none) := grown_trans G.out gx
            have hJ := HKf.out _ G.out
            clear gx hL
            go_wp2_with fail
            refine hK.out _ _ ?_ (fun hHeld => ?_)
            · ((try dsimp only); first | with_reducible exact hJ | with_reducible exact HKf.out _ (gn_alloc G.out _) | with_reducible exact HKf.out _ (gn_drew (gn_alloc G.out _)) | with_reducible exact hJ1 | with_reducible exact hJ2 | with_reducible exact hJ0 | exact hJ2)
            clear hK K
            try simp only [Act.put, List.setIfInBounds_toArray, List.set_cons_zero, List.set_cons_succ]
            refine wpAnyH_take (i := 6) (oi := { dst := some 44, op := Go.Op.move (Go.Operand.tmp 50), type := 43, pos := "outright.go:20", after := #[{ on := 5, ground := Go.Ground.data }], guard := none }) (v := ?_) rfl (by kernel_rfl) (by kernel_rfl) (by kernel_rfl) (fun _ _ _ h => h) (Or.inl ⟨by rfl, ?_⟩) (by assumption) ?_
            rotate_left
            · (intro w hSw; (try dsimp only at hSw); (go_simp <;> with_reducible rfl))
            try simp only [Act.put, List.setIfInBounds_toArray, List.set_cons_zero, List.set_cons_succ]
            refine wpAnyH_take (i := 7) (oi := { dst := some 51, op := Go.Op.extract (Go.Operand.tmp 44) 0, type := 27, pos := "outright.go:20", after := #[{ on := 6, ground := Go.Ground.data }], guard := none }) (v := ?_) rfl (by kernel_rfl) (by kernel_rfl) (by kernel_rfl) (fun _ _ _ h => h) (Or.inl ⟨by rfl, ?_⟩) (by assumption) ?_
            rotate_left
            · (intro w hSw; (try dsimp only at hSw); (go_simp <;> with_reducible rfl))
            try simp only [Act.put, List.setIfInBounds_toArray, List.set_cons_zero, List.set_cons_succ]
            refine wpAnyH_take (i := 8) (oi := { dst := some 52, op := Go.Op.extract (Go.Operand.tmp 44) 1, type := 3, pos := "outright.go:20", after := #[{ on := 6, ground := Go.Ground.data }, { on := 12, ground := Go.Ground.gcOnly Go.Departure.lateStores }], guard := none }) (v := ?_) rfl (by kernel_rfl) (by kernel_rfl) (by kernel_rfl) (fun _ _ _ h => h) (Or.inl ⟨by rfl, ?_⟩) (by assumption) ?_
            rotate_left
            · (intro w hSw; (try dsimp only at hSw); (go_simp <;> with_reducible rfl))
            try simp only [Act.put, List.setIfInBounds_toArray, List.set_cons_zero, List.set_cons_succ]
            refine wpAnyH_take (i := 9) (oi := { dst := some 53, op := Go.Op.extract (Go.Operand.tmp 44) 2, type := 24, pos := "outright.go:20", after := #[{ on := 6, ground := Go.Ground.data }, { on := 13, ground := Go.Ground.gcOnly Go.Departure.lateStores }], guard := none }) (v := ?_) rfl (by kernel_rfl) (by kernel_rfl) (by kernel_rfl) (fun _ _ _ h => h) (Or.inl ⟨by rfl, ?_⟩) (by assumption) ?_
            rotate_left
            · (intro w hSw; (try dsimp only at hSw); (go_simp <;> with_reducible rfl))
            try simp only [Act.put, List.setIfInBounds_toArray, List.set_cons_zero, List.set_cons_succ]
            refine wpAnyH_ready (rs := [11]) (by kernel_rfl) (by simp) ?_
            refine AllReadyH.cons (o := { dst := some 15, op := Go.Op.alloc 3, type := 0, pos := "outright.go:20", after := #[], guard := none }) rfl (fun K hK => ?_) ?_
            rotate_left
            · exact AllReadyH.nil
            go_simp
            refine hK.out _ _ ?_ (fun hHeld => ?_)
            · ((try dsimp only); first | with_reducible exact hJ | with_reducible exact HKf.out _ (gn_alloc G.out _) | with_reducible exact HKf.out _ (gn_drew (gn_alloc G.out _)) | with_reducible exact hJ1 | with_reducible exact hJ2 | with_reducible exact hJ0 | exact hJ2)
            clear hK K
            try simp only [Act.put, List.setIfInBounds_toArray, List.set_cons_zero, List.set_cons_succ]
            obtain ⟨wx20, hnw⟩ : ∃ wx20, wx19.alloc (.cells #[.int .i64 0] 3) = wx20 := ⟨_, rfl⟩
            obtain ⟨b5, hnb⟩ : ∃ b5, wx19.heap.size = b5 := ⟨_, rfl⟩
            have HB5 : Hid (wx20.heap[b5]? = some (.cells [Value.int .i64 0].toArray 3 (0, 0))) := by rw [← hnw, ← hnb]; exact heap_alloc_new wx19 _
            have HG5 : Hid (wb.heap.size ≤ b5) := by rw [← hnb]; exact grownBy_size G.out
            have HB4 : Hid (wx20.heap[b4]? = some (.cells [Value.pointer none].toArray 27 (0, 0))) := by rw [← hnw]; exact keep1 _ _ HB4.out
            have HN5 : Hid (¬ p.own b5) := fun e => by have h1 := HL.out.bk.lt _ e; rw [← hnb] at h1; exact Nat.lt_irrefl _ h1
            have HL : Hid (Lb wb wx20 d S2 p) := by rw [← hnw]; exact HL.out.then (grown_alloc _ _)
            have G : Hid (wb.grownBy wx20 none) := by rw [← hnw]; exact gn_alloc G.out _
            have hJ := HKf.out _ G.out
            rw [hnw, hnb]
            clear hnw hnb
            have HY : Hid (Py wb wx20 b4 b5 d S2 p) := ⟨HB4.out, HB5.out, G.out, HL.out, HN4.out, HN5.out, HG4.out, HG5.out⟩
            have HZ := hide (HY.out.two m2)
            have hJ1 := HKf.out _ HY.out.one.2.2.1
            have hJ2 := HKf.out _ HZ.out.gr
            have y4 : wx20.cell? ⟨b4, 0, none⟩ = some (.pointer none) := by have := cell_row HY.out.c4 0; simpa using this
            have z4 : wx20.frozen? ⟨b4, 0, none⟩ = false := free_row HY.out.c4 0
            have y5 : (wx20.setCell ⟨b4, 0, none⟩ (.pointer (some ⟨d, 0, none⟩))).cell? ⟨b5, 0, none⟩ = some (.int .i64 0) := by have := cell_row HY.out.one.2.1 0; simpa using this
            have z5 : (wx20.setCell ⟨b4, 0, none⟩ (.pointer (some ⟨d, 0, none⟩))).frozen? ⟨b5, 0, none⟩ = false := free_row HY.out.one.2.1 0
            refine wpAnyH_ready (rs := [12]) (by kernel_rfl) (by simp) ?_
            refine AllReadyH.cons (o := { dst := none, op := Go.Op.store 27 (Go.Operand.tmp 14) (Go.Operand.tmp 51), type := 0, pos := "outright.go:20", after := #[{ on := 10, ground := Go.Ground.data }, { on := 7, ground := Go.Ground.data }, { on := 5, ground := Go.Ground.chain }, { on := 0, ground := Go.Ground.phase }, { on := 1, ground := Go.Ground.phase }, { on := 2, ground := Go.Ground.phase }, { on := 3, ground := Go.Ground.phase }, { on := 4, ground := Go.Ground.phase }, { on := 5, ground := Go.Ground.phase }, { on := 6, ground := Go.Ground.phase }, { on := 7, ground := Go.Ground.phase }, { on := 8, ground := Go.Ground.textOnly Go.Departure.lateStores }, { on := 9, ground := Go.Ground.textOnly Go.Departure.lateStores }, { on := 10, ground := Go.Ground.phase }, { on := 11, ground := Go.Ground.phase }], guard := none }) rfl (fun K hK => ?_) ?_
            rotate_left
            · exact AllReadyH.nil
            go_simp
            refine hK.out _ _ ?_ (fun hHeld => ?_)
            · ((try dsimp only); first | with_reducible exact hJ | with_reducible exact HKf.out _ (gn_alloc G.out _) | with_reducible exact HKf.out _ (gn_drew (gn_alloc G.out _)) | with_reducible exact hJ1 | with_reducible exact hJ2 | with_reducible exact hJ0 | exact hJ2)
            clear hK K
            try simp only [Act.put, List.setIfInBounds_toArray, List.set_cons_zero, List.set_cons_succ]
            refine wpAnyH_ready (rs := [13]) (by kernel_rfl) (by simp) ?_
            refine AllReadyH.cons (o := { dst := none, op := Go.Op.store 3 (Go.Operand.tmp 15) (Go.Operand.tmp 52), type := 0, pos := "outright.go:20", after := #[{ on := 11, ground := Go.Ground.data }, { on := 8, ground := Go.Ground.data }, { on := 12, ground := Go.Ground.chain }, { on := 0, ground := Go.Ground.phase }, { on := 1, ground := Go.Ground.phase }, { on := 2, ground := Go.Ground.phase }, { on := 3, ground := Go.Ground.phase }, { on := 4, ground := Go.Ground.phase }, { on := 5, ground := Go.Ground.phase }, { on := 6, ground := Go.Ground.phase }, { on := 7, ground := Go.Ground.phase }, { on := 8, ground := Go.Ground.phase }, { on := 9, ground := Go.Ground.textOnly Go.Departure.lateStores }, { on := 10, ground := Go.Ground.phase }, { on := 11, ground := Go.Ground.phase }, { on := 12, ground := Go.Ground.phase }], guard := none }) rfl (fun K hK => ?_) ?_
            rotate_left
            · exact AllReadyH.nil
            go_simp
            refine hK.out _ _ ?_ (fun hHeld => ?_)
            · ((try dsimp only); first | with_reducible exact hJ | with_reducible exact HKf.out _ (gn_alloc G.out _) | with_reducible exact HKf.out _ (gn_drew (gn_alloc G.out _)) | with_reducible exact hJ1 | with_reducible exact hJ2 | with_reducible exact hJ0 | exact hJ2)
            clear hK K
            try simp only [Act.put, List.setIfInBounds_toArray, List.set_cons_zero, List.set_cons_succ]
            refine wpAnyH_take (i := 14) (oi := { dst := some 16, op := Go.Op.assign (Go.Operand.tmp 53), type := 24, pos := "outright.go:20", after := #[{ on := 9, ground := Go.Ground.data }, { on := 13, ground := Go.Ground.chain }, { on := 0, ground := Go.Ground.phase }, { on := 1, ground := Go.Ground.phase }, { on := 2, ground := Go.Ground.phase }, { on := 3, ground := Go.Ground.phase }, { on := 4, ground := Go.Ground.phase }, { on := 5, ground := Go.Ground.phase }, { on := 6, ground := Go.Ground.phase }, { on := 7, ground := Go.Ground.phase }, { on := 8, ground := Go.Ground.phase }, { on := 9, ground := Go.Ground.phase }, { on := 10, ground := Go.Ground.phase }, { on := 11, ground := Go.Ground.phase }, { on := 12, ground := Go.Ground.phase }, { on := 13, ground := Go.Ground.phase }], guard := none }) (v := ?_) rfl (by kernel_rfl) (by kernel_rfl) (by kernel_rfl) (fun _ _ _ h => h) (Or.inl ⟨by rfl, ?_⟩) (by assumption) ?_
            rotate_left
            · (intro w hSw; (try dsimp only at hSw); (go_simp <;> with_reducible rfl))
            try simp only [Act.put, List.setIfInBounds_toArray, List.set_cons_zero, List.set_cons_succ]
            refine wpAnyH_done (by kernel_rfl) ?_ _
            refine NoPanic.normal ?_
            go_wp2
            go_meet
            case rel => exact ⟨_, _, _, _, rfl, rfl, rfl, HZ.out⟩
          refine AllReadyH.cons (o := { dst := some 15, op := Go.Op.alloc 3, type := 0, pos := "outright.go:20", after := #[], guard := none }) rfl (fun K hK => ?_) ?_
          · skip
            go_simp
            refine hK.out _ _ ?_ (fun hHeld => ?_)
            · ((try dsimp only); first | with_reducible exact hJ | with_reducible exact HKf.out _ (gn_alloc G.out _) | with_reducible exact HKf.out _ (gn_drew (gn_alloc G.out _)) | with_reducible exact hJ1 | with_reducible exact hJ2 | with_reducible exact hJ0 | exact hJ2)
            clear hK K
            try simp only [Act.put, List.setIfInBounds_toArray, List.set_cons_zero, List.set_cons_succ]
            obtain ⟨wx21, hnw⟩ : ∃ wx21, wx18.alloc (.cells #[.int .i64 0] 3) = wx21 := ⟨_, rfl⟩
            obtain ⟨b5, hnb⟩ : ∃ b5, wx18.heap.size = b5 := ⟨_, rfl⟩
            have HB5 : Hid (wx21.heap[b5]? = some (.cells [Value.int .i64 0].toArray 3 (0, 0))) := by rw [← hnw, ← hnb]; exact heap_alloc_new wx18 _
            have HG5 : Hid (wb.heap.size ≤ b5) := by rw [← hnb]; exact grownBy_size G.out
            have HB4 : Hid (wx21.heap[b4]? = some (.cells [Value.pointer none].toArray 27 (0, 0))) := by rw [← hnw]; exact keep1 _ _ HB4.out
            have HR2 : Hid (Rw wx21 wb.heap.size so2 c2 (h.take k)) := by rw [← hnw]; exact HR2.out.then (grown_alloc _ _)
            have G : Hid (wb.grownBy wx21 none) := by rw [← hnw]; exact gn_alloc G.out _
            have hJ := HKf.out _ G.out
            rw [hnw, hnb]
            clear hnw hnb
            refine wpAnyH_ready (rs := [5]) (by kernel_rfl) (by simp) ?_
            refine AllReadyH.cons (o := { dst := some 50, op := Go.Op.call { callee := Go.Callee.value (Go.Operand.func 10), args := #[Go.Operand.tmp 45, Go.Operand.tmp 49], argTypes := #[23, 48] }, type := 43, pos := "outright.go:20", after := #[{ on := 0, ground := Go.Ground.data }, { on := 4, ground := Go.Ground.data }, { on := 4, ground := Go.Ground.chain }], guard := none }) rfl (fun K hK => ?_) ?_
            rotate_left
            · exact AllReadyH.nil
            go_simp
            refine (HOf2.out _ _ _ G.out HR2.out).mono ?_
            rintro e wx22 ⟨d, p, rfl, hL, gx⟩
            have HN4 : Hid (¬ p.own b4) := fun e => by have h1 := hL.own _ e; have h2 := row_lt HB4.out; exact absurd h2 (Nat.not_lt.2 h1)
            have HN5 : Hid (¬ p.own b5) := fun e => by have h1 := hL.own _ e; have h2 := row_lt HB5.out; exact absurd h2 (Nat.not_lt.2 h1)
            have HB4 := hide ((gx.block _ (row_lt HB4.out) (by simp)).trans HB4.out)
            have HB5 := hide ((gx.block _ (row_lt HB5.out) (by simp)).trans HB5.out)
            have HL : Hid (Lb wb wx22 d S2 p) := hL.base (grownBy_size G.out)
            have G : Hid (wb.grownBy wx22 none) := grown_trans G.out gx
            have hJ := HKf.out _ G.out
            clear gx hL
            have HY : Hid (Py wb wx22 b4 b5 d S2 p) := ⟨HB4.out, HB5.out, G.out, HL.out, HN4.out, HN5.out, HG4.out, HG5.out⟩
            have HZ := hide (HY.out.two m2)
            have hJ1 := HKf.out _ HY.out.one.2.2.1
            have hJ2 := HKf.out _ HZ.out.gr
            have y4 : wx22.cell? ⟨b4, 0, none⟩ = some (.pointer none) := by have := cell_row HY.out.c4 0; simpa using this
            have z4 : wx22.frozen? ⟨b4, 0, none⟩ = false := free_row HY.out.c4 0
            have y5 : (wx22.setCell ⟨b4, 0, none⟩ (.pointer (some ⟨d, 0, none⟩))).cell? ⟨b5, 0, none⟩ = some (.int .i64 0) := by have := cell_row HY.out.one.2.1 0; simpa using this
            have z5 : (wx22.setCell ⟨b4, 0, none⟩ (.pointer (some ⟨d, 0, none⟩))).frozen? ⟨b5, 0, none⟩ = false := free_row HY.out.one.2.1 0
            go_wp2_with fail
            refine hK.out _ _ ?_ (fun hHeld => ?_)
            · ((try dsimp only); first | with_reducible exact hJ | with_reducible exact HKf.out _ (gn_alloc G.out _) | with_reducible exact HKf.out _ (gn_drew (gn_alloc G.out _)) | with_reducible exact hJ1 | with_reducible exact hJ2 | with_reducible exact hJ0 | exact hJ2)
            clear hK K
            try simp only [Act.put, List.setIfInBounds_toArray, List.set_cons_zero, List.set_cons_succ]
            refine wpAnyH_take (i := 6) (oi := { dst := some 44, op := Go.Op.move (Go.Operand.tmp 50), type := 43, pos := "outright.go:20", after := #[{ on := 5, ground := Go.Ground.data }], guard := none }) (v := ?_) rfl (by kernel_rfl) (by kernel_rfl) (by kernel_rfl) (fun _ _ _ h => h) (Or.inl ⟨by rfl, ?_⟩) (by assumption) ?_
            rotate_left
            · (intro w hSw; (try dsimp only at hSw); (go_simp <;> with_reducible rfl))
            try simp only [Act.put, List.setIfInBounds_toArray, List.set_cons_zero, List.set_cons_succ]
            refine wpAnyH_take (i := 7) (oi := { dst := some 51, op := Go.Op.extract (Go.Operand.tmp 44) 0, type := 27, pos := "outright.go:20", after := #[{ on := 6, ground := Go.Ground.data }], guard := none }) (v := ?_) rfl (by kernel_rfl) (by kernel_rfl) (by kernel_rfl) (fun _ _ _ h => h) (Or.inl ⟨by rfl, ?_⟩) (by assumption) ?_
            rotate_left
            · (intro w hSw; (try dsimp only at hSw); (go_simp <;> with_reducible rfl))
            try simp only [Act.put, List.setIfInBounds_toArray, List.set_cons_zero, List.set_cons_succ]
            refine wpAnyH_take (i := 8) (oi := { dst := some 52, op := Go.Op.extract (Go.Operand.tmp 44) 1, type := 3, pos := "outright.go:20", after := #[{ on := 6, ground := Go.Ground.data }, { on := 12, ground := Go.Ground.gcOnly Go.Departure.lateStores }], guard := none }) (v := ?_) rfl (by kernel_rfl) (by kernel_rfl) (by kernel_rfl) (fun _ _ _ h => h) (Or.inl ⟨by rfl, ?_⟩) (by assumption) ?_
            rotate_left
            · (intro w hSw; (try dsimp only at hSw); (go_simp <;> with_reducible rfl))
            try simp only [Act.put, List.setIfInBounds_toArray, List.set_cons_zero, List.set_cons_succ]
            refine wpAnyH_take (i := 9) (oi := { dst := some 53, op := Go.Op.extract (Go.Operand.tmp 44) 2, type := 24, pos := "outright.go:20", after := #[{ on := 6, ground := Go.Ground.data }, { on := 13, ground := Go.Ground.gcOnly Go.Departure.lateStores }], guard := none }) (v := ?_) rfl (by kernel_rfl) (by kernel_rfl) (by kernel_rfl) (fun _ _ _ h => h) (Or.inl ⟨by rfl, ?_⟩) (by assumption) ?_
            rotate_left
            · (intro w hSw; (try dsimp only at hSw); (go_simp <;> with_reducible rfl))
            try simp only [Act.put, List.setIfInBounds_toArray, List.set_cons_zero, List.set_cons_succ]
            refine wpAnyH_ready (rs := [12]) (by kernel_rfl) (by simp) ?_
            refine AllReadyH.cons (o := { dst := none, op := Go.Op.store 27 (Go.Operand.tmp 14) (Go.Operand.tmp 51), type := 0, pos := "outright.go:20", after := #[{ on := 10, ground := Go.Ground.data }, { on := 7, ground := Go.Ground.data }, { on := 5, ground := Go.Ground.chain }, { on := 0, ground := Go.Ground.phase }, { on := 1, ground := Go.Ground.phase }, { on := 2, ground := Go.Ground.phase }, { on := 3, ground := Go.Ground.phase }, { on := 4, ground := Go.Ground.phase }, { on := 5, ground := Go.Ground.phase }, { on := 6, ground := Go.Ground.phase }, { on := 7, ground := Go.Ground.phase }, { on := 8, ground := Go.Ground.textOnly Go.Departure.lateStores }, { on := 9, ground := Go.Ground.textOnly Go.Departure.lateStores }, { on := 10, ground := Go.Ground.phase }, { on := 11, ground := Go.Ground.phase }], guard := none }) rfl (fun K hK => ?_) ?_
            rotate_left
            · exact AllReadyH.nil
            go_simp
            refine hK.out _ _ ?_ (fun hHeld => ?_)
            · ((try dsimp only); first | with_reducible exact hJ | with_reducible exact HKf.out _ (gn_alloc G.out _) | with_reducible exact HKf.out _ (gn_drew (gn_alloc G.out _)) | with_reducible exact hJ1 | with_reducible exact hJ2 | with_reducible exact hJ0 | exact hJ2)
            clear hK K
            try simp only [Act.put, List.setIfInBounds_toArray, List.set_cons_zero, List.set_cons_succ]
            refine wpAnyH_ready (rs := [13]) (by kernel_rfl) (by simp) ?_
            refine AllReadyH.cons (o := { dst := none, op := Go.Op.store 3 (Go.Operand.tmp 15) (Go.Operand.tmp 52), type := 0, pos := "outright.go:20", after := #[{ on := 11, ground := Go.Ground.data }, { on := 8, ground := Go.Ground.data }, { on := 12, ground := Go.Ground.chain }, { on := 0, ground := Go.Ground.phase }, { on := 1, ground := Go.Ground.phase }, { on := 2, ground := Go.Ground.phase }, { on := 3, ground := Go.Ground.phase }, { on := 4, ground := Go.Ground.phase }, { on := 5, ground := Go.Ground.phase }, { on := 6, ground := Go.Ground.phase }, { on := 7, ground := Go.Ground.phase }, { on := 8, ground := Go.Ground.phase }, { on := 9, ground := Go.Ground.textOnly Go.Departure.lateStores }, { on := 10, ground := Go.Ground.phase }, { on := 11, ground := Go.Ground.phase }, { on := 12, ground := Go.Ground.phase }], guard := none }) rfl (fun K hK => ?_) ?_
            rotate_left
            · exact AllReadyH.nil
            go_simp
            refine hK.out _ _ ?_ (fun hHeld => ?_)
            · ((try dsimp only); first | with_reducible exact hJ | with_reducible exact HKf.out _ (gn_alloc G.out _) | with_reducible exact HKf.out _ (gn_drew (gn_alloc G.out _)) | with_reducible exact hJ1 | with_reducible exact hJ2 | with_reducible exact hJ0 | exact hJ2)
            clear hK K
            try simp only [Act.put, List.setIfInBounds_toArray, List.set_cons_zero, List.set_cons_succ]
            refine wpAnyH_take (i := 14) (oi := { dst := some 16, op := Go.Op.assign (Go.Operand.tmp 53), type := 24, pos := "outright.go:20", after := #[{ on := 9, ground := Go.Ground.data }, { on := 13, ground := Go.Ground.chain }, { on := 0, ground := Go.Ground.phase }, { on := 1, ground := Go.Ground.phase }, { on := 2, ground := Go.Ground.phase }, { on := 3, ground := Go.Ground.phase }, { on := 4, ground := Go.Ground.phase }, { on := 5, ground := Go.Ground.phase }, { on := 6, ground := Go.Ground.phase }, { on := 7, ground := Go.Ground.phase }, { on := 8, ground := Go.Ground.phase }, { on := 9, ground := Go.Ground.phase }, { on := 10, ground := Go.Ground.phase }, { on := 11, ground := Go.Ground.phase }, { on := 12, ground := Go.Ground.phase }, { on := 13, ground := Go.Ground.phase }], guard := none }) (v := ?_) rfl (by kernel_rfl) (by kernel_rfl) (by kernel_rfl) (fun _ _ _ h => h) (Or.inl ⟨by rfl, ?_⟩) (by assumption) ?_
            rotate_left
            · (intro w hSw; (try dsimp only at hSw); (go_simp <;> with_reducible rfl))
            try simp only [Act.put, List.setIfInBounds_toArray, List.set_cons_zero, List.set_cons_succ]
            refine wpAnyH_done (by kernel_rfl) ?_ _
            refine NoPanic.normal ?_
            go_wp2
            go_meet
            case rel => exact ⟨_, _, _, _, rfl, rfl, rfl, HZ.out⟩
          exact AllReadyH.nil
        refine AllReadyH.cons (o := { dst := some 15, op := Go.Op.alloc 3, type := 0, pos := "outright.go:20", after := #[], guard := none }) rfl (fun K hK => ?_) ?_
        · skip
          go_simp
          refine hK.out _ _ ?_ (fun hHeld => ?_)
          · ((try dsimp only); first | with_reducible exact hJ | with_reducible exact HKf.out _ (gn_alloc G.out _) | with_reducible exact HKf.out _ (gn_drew (gn_alloc G.out _)) | with_reducible exact hJ1 | with_reducible exact hJ2 | with_reducible exact hJ0 | exact hJ2)
          clear hK K
          try simp only [Act.put, List.setIfInBounds_toArray, List.set_cons_zero, List.set_cons_succ]
          obtain ⟨wx23, hnw⟩ : ∃ wx23, wx17.alloc (.cells #[.int .i64 0] 3) = wx23 := ⟨_, rfl⟩
          obtain ⟨b5, hnb⟩ : ∃ b5, wx17.heap.size = b5 := ⟨_, rfl⟩
          have HB5 : Hid (wx23.heap[b5]? = some (.cells [Value.int .i64 0].toArray 3 (0, 0))) := by rw [← hnw, ← hnb]; exact heap_alloc_new wx17 _
          have HG5 : Hid (wb.heap.size ≤ b5) := by rw [← hnb]; exact grownBy_size G.out
          have HB4 : Hid (wx23.heap[b4]? = some (.cells [Value.pointer none].toArray 27 (0, 0))) := by rw [← hnw]; exact keep1 _ _ HB4.out
          have G : Hid (wb.grownBy wx23 none) := by rw [← hnw]; exact gn_alloc G.out _
          have hJ := HKf.out _ (gn_drew G.out)
          rw [hnw, hnb]
          clear hnw hnb
          refine wpAnyH_ready (rs := [4]) (by kernel_rfl) (by simp) ?_
          refine AllReadyH.cons (o := { dst := some 49, op := Go.Op.call { callee := Go.Callee.value (Go.Operand.func 33), args := #[Go.Operand.tmp 48], argTypes := #[48] }, type := 48, pos := "outright.go:20", after := #[{ on := 3, ground := Go.Ground.data }], guard := none }) rfl (fun K hK => ?_) ?_
          rotate_left
          · exact AllReadyH.nil
          go_simp
          refine (HCp.out _ (gn_drew G.out)).mono ?_
          rintro e wx24 ⟨so2, c2, rfl, hR2, gx⟩
          have HR2 := hide hR2
          have HB4 := hide ((gx.block _ (row_lt HB4.out) (by simp)).trans HB4.out)
          have HB5 := hide ((gx.block _ (row_lt HB5.out) (by simp)).trans HB5.out)
          have G : Hid (wb.grownBy wx24 none) := grown_trans (gn_drew G.out) gx
          have hJ := HKf.out _ G.out
          clear gx hR2
          go_wp2_with fail
          refine hK.out _ _ ?_ (fun hHeld => ?_)
          · ((try dsimp only); first | with_reducible exact hJ | with_reducible exact HKf.out _ (gn_alloc G.out _) | with_reducible exact HKf.out _ (gn_drew (gn_alloc G.out _)) | with_reducible exact hJ1 | with_reducible exact hJ2 | with_reducible exact hJ0 | exact hJ2)
          clear hK K
          try simp only [Act.put, List.setIfInBounds_toArray, List.set_cons_zero, List.set_cons_succ]
          refine wpAnyH_ready (rs := [5]) (by kernel_rfl) (by simp) ?_
          refine AllReadyH.cons (o := { dst := some 50, op := Go.Op.call { callee := Go.Callee.value (Go.Operand.func 10), args := #[Go.Operand.tmp 45, Go.Operand.tmp 49], argTypes := #[23, 48] }, type := 43, pos := "outright.go:20", after := #[{ on := 0, ground := Go.Ground.data }, { on := 4, ground := Go.Ground.data }, { on := 4, ground := Go.Ground.chain }], guard := none }) rfl (fun K hK => ?_) ?_
          rotate_left
          · exact AllReadyH.nil
          go_simp
          refine (HOf2.out _ _ _ G.out HR2.out).mono ?_
          rintro e wx25 ⟨d, p, rfl, hL, gx⟩
          have HN4 : Hid (¬ p.own b4) := fun e => by have h1 := hL.own _ e; have h2 := row_lt HB4.out; exact absurd h2 (Nat.not_lt.2 h1)
          have HN5 : Hid (¬ p.own b5) := fun e => by have h1 := hL.own _ e; have h2 := row_lt HB5.out; exact absurd h2 (Nat.not_lt.2 h1)
          have HB4 := hide ((gx.block _ (row_lt HB4.out) (by simp)).trans HB4.out)
          have HB5 := hide ((gx.block _ (row_lt HB5.out) (by simp)).trans HB5.out)
          have HL : Hid (Lb wb wx25 d S2 p) := hL.base (grownBy_size G.out)
          have G : Hid (wb.grownBy wx25 none) := grown_trans G.out gx
          have hJ := HKf.out _ G.out
          clear gx hL
          have HY : Hid (Py wb wx25 b4 b5 d S2 p) := ⟨HB4.out, HB5.out, G.out, HL.out, HN4.out, HN5.out, HG4.out, HG5.out⟩
          have HZ := hide (HY.out.two m2)
          have hJ1 := HKf.out _ HY.out.one.2.2.1
          have hJ2 := HKf.out _ HZ.out.gr
          have y4 : wx25.cell? ⟨b4, 0, none⟩ = some (.pointer none) := by have := cell_row HY.out.c4 0; simpa using this
          have z4 : wx25.frozen? ⟨b4, 0, none⟩ = false := free_row HY.out.c4 0
          have y5 : (wx25.setCell ⟨b4, 0, none⟩ (.pointer (some ⟨d, 0, none⟩))).cell? ⟨b5, 0, none⟩ = some (.int .i64 0) := by have := cell_row HY.out.one.2.1 0; simpa using this
          have z5 : (wx25.setCell ⟨b4, 0, none⟩ (.pointer (some ⟨d, 0, none⟩))).frozen? ⟨b5, 0, none⟩ = false := free_row HY.out.one.2.1 0
          go_wp2_with fail
          refine hK.out _ _ ?_ (fun hHeld => ?_)
          · ((try dsimp only); first | with_reducible exact hJ | with_reducible exact HKf.out _ (gn_alloc G.out _) | with_reducible exact HKf.out _ (gn_drew (gn_alloc G.out _)) | with_reducible exact hJ1 | with_reducible exact hJ2 | with_reducible exact hJ0 | exact hJ2)
          clear hK K
          try simp only [Act.put, List.setIfInBounds_toArray, List.set_cons_zero, List.set_cons_succ]
          refine wpAnyH_take (i := 6) (oi := { dst := some 44, op := Go.Op.move (Go.Operand.tmp 50), type := 43, pos := "outright.go:20", after := #[{ on := 5, ground := Go.Ground.data }], guard := none }) (v := ?_) rfl (by kernel_rfl) (by kernel_rfl) (by kernel_rfl) (fun _ _ _ h => h) (Or.inl ⟨by rfl, ?_⟩) (by assumption) ?_
          rotate_left
          · (intro w hSw; (try dsimp only at hSw); (go_simp <;> with_reducible rfl))
          try simp only [Act.put, List.setIfInBounds_toArray, List.set_cons_zero, List.set_cons_succ]
          refine wpAnyH_take (i := 7) (oi := { dst := some 51, op := Go.Op.extract (Go.Operand.tmp 44) 0, type := 27, pos := "outright.go:20", after := #[{ on := 6, ground := Go.Ground.data }], guard := none }) (v := ?_) rfl (by kernel_rfl) (by kernel_rfl) (by kernel_rfl) (fun _ _ _ h => h) (Or.inl ⟨by rfl, ?_⟩) (by assumption) ?_
          rotate_left
          · (intro w hSw; (try dsimp only at hSw); (go_simp <;> with_reducible rfl))
          try simp only [Act.put, List.setIfInBounds_toArray, List.set_cons_zero, List.set_cons_succ]
          refine wpAnyH_take (i := 8) (oi := { dst := some 52, op := Go.Op.extract (Go.Operand.tmp 44) 1, type := 3, pos := "outright.go:20", after := #[{ on := 6, ground := Go.Ground.data }, { on := 12, ground := Go.Ground.gcOnly Go.Departure.lateStores }], guard := none }) (v := ?_) rfl (by kernel_rfl) (by kernel_rfl) (by kernel_rfl) (fun _ _ _ h => h) (Or.inl ⟨by rfl, ?_⟩) (by assumption) ?_
          rotate_left
          · (intro w hSw; (try dsimp only at hSw); (go_simp <;> with_reducible rfl))
          try simp only [Act.put, List.setIfInBounds_toArray, List.set_cons_zero, List.set_cons_succ]
          refine wpAnyH_take (i := 9) (oi := { dst := some 53, op := Go.Op.extract (Go.Operand.tmp 44) 2, type := 24, pos := "outright.go:20", after := #[{ on := 6, ground := Go.Ground.data }, { on := 13, ground := Go.Ground.gcOnly Go.Departure.lateStores }], guard := none }) (v := ?_) rfl (by kernel_rfl) (by kernel_rfl) (by kernel_rfl) (fun _ _ _ h => h) (Or.inl ⟨by rfl, ?_⟩) (by assumption) ?_
          rotate_left
          · (intro w hSw; (try dsimp only at hSw); (go_simp <;> with_reducible rfl))
          try simp only [Act.put, List.setIfInBounds_toArray, List.set_cons_zero, List.set_cons_succ]
          refine wpAnyH_ready (rs := [12]) (by kernel_rfl) (by simp) ?_
          refine AllReadyH.cons (o := { dst := none, op := Go.Op.store 27 (Go.Operand.tmp 14) (Go.Operand.tmp 51), type := 0, pos := "outright.go:20", after := #[{ on := 10, ground := Go.Ground.data }, { on := 7, ground := Go.Ground.data }, { on := 5, ground := Go.Ground.chain }, { on := 0, ground := Go.Ground.phase }, { on := 1, ground := Go.Ground.phase }, { on := 2, ground := Go.Ground.phase }, { on := 3, ground := Go.Ground.phase }, { on := 4, ground := Go.Ground.phase }, { on := 5, ground := Go.Ground.phase }, { on := 6, ground := Go.Ground.phase }, { on := 7, ground := Go.Ground.phase }, { on := 8, ground := Go.Ground.textOnly Go.Departure.lateStores }, { on := 9, ground := Go.Ground.textOnly Go.Departure.lateStores }, { on := 10, ground := Go.Ground.phase }, { on := 11, ground := Go.Ground.phase }], guard := none }) rfl (fun K hK => ?_) ?_
          rotate_left
          · exact AllReadyH.nil
          go_simp
          refine hK.out _ _ ?_ (fun hHeld => ?_)
          · ((try dsimp only); first | with_reducible exact hJ | with_reducible exact HKf.out _ (gn_alloc G.out _) | with_reducible exact HKf.out _ (gn_drew (gn_alloc G.out _)) | with_reducible exact hJ1 | with_reducible exact hJ2 | with_reducible exact hJ0 | exact hJ2)
          clear hK K
          try simp only [Act.put, List.setIfInBounds_toArray, List.set_cons_zero, List.set_cons_succ]
          refine wpAnyH_ready (rs := [13]) (by kernel_rfl) (by simp) ?_
          refine AllReadyH.cons (o := { dst := none, op := Go.Op.store 3 (Go.Operand.tmp 15) (Go.Operand.tmp 52), type := 0, pos := "outright.go:20", after := #[{ on := 11, ground := Go.Ground.data }, { on := 8, ground := Go.Ground.data }, { on := 12, ground := Go.Ground.chain }, { on := 0, ground := Go.Ground.phase }, { on := 1, ground := Go.Ground.phase }, { on := 2, ground := Go.Ground.phase }, { on := 3, ground := Go.Ground.phase }, { on := 4, ground := Go.Ground.phase }, { on := 5, ground := Go.Ground.phase }, { on := 6, ground := Go.Ground.phase }, { on := 7, ground := Go.Ground.phase }, { on := 8, ground := Go.Ground.phase }, { on := 9, ground := Go.Ground.textOnly Go.Departure.lateStores }, { on := 10, ground := Go.Ground.phase }, { on := 11, ground := Go.Ground.phase }, { on := 12, ground := Go.Ground.phase }], guard := none }) rfl (fun K hK => ?_) ?_
          rotate_left
          · exact AllReadyH.nil
          go_simp
          refine hK.out _ _ ?_ (fun hHeld => ?_)
          · ((try dsimp only); first | with_reducible exact hJ | with_reducible exact HKf.out _ (gn_alloc G.out _) | with_reducible exact HKf.out _ (gn_drew (gn_alloc G.out _)) | with_reducible exact hJ1 | with_reducible exact hJ2 | with_reducible exact hJ0 | exact hJ2)
          clear hK K
          try simp only [Act.put, List.setIfInBounds_toArray, List.set_cons_zero, List.set_cons_succ]
          refine wpAnyH_take (i := 14) (oi := { dst := some 16, op := Go.Op.assign (Go.Operand.tmp 53), type := 24, pos := "outright.go:20", after := #[{ on := 9, ground := Go.Ground.data }, { on := 13, ground := Go.Ground.chain }, { on := 0, ground := Go.Ground.phase }, { on := 1, ground := Go.Ground.phase }, { on := 2, ground := Go.Ground.phase }, { on := 3, ground := Go.Ground.phase }, { on := 4, ground := Go.Ground.phase }, { on := 5, ground := Go.Ground.phase }, { on := 6, ground := Go.Ground.phase }, { on := 7, ground := Go.Ground.phase }, { on := 8, ground := Go.Ground.phase }, { on := 9, ground := Go.Ground.phase }, { on := 10, ground := Go.Ground.phase }, { on := 11, ground := Go.Ground.phase }, { on := 12, ground := Go.Ground.phase }, { on := 13, ground := Go.Ground.phase }], guard := none }) (v := ?_) rfl (by kernel_rfl) (by kernel_rfl) (by kernel_rfl) (fun _ _ _ h => h) (Or.inl ⟨by rfl, ?_⟩) (by assumption) ?_
          rotate_left
          · (intro w hSw; (try dsimp only at hSw); (go_simp <;> with_reducible rfl))
          try simp only [Act.put, List.setIfInBounds_toArray, List.set_cons_zero, List.set_cons_succ]
          refine wpAnyH_done (by kernel_rfl) ?_ _
          refine NoPanic.normal ?_
          go_wp2
          go_meet
          case rel => exact ⟨_, _, _, _, rfl, rfl, rfl, HZ.out⟩
        exact AllReadyH.nil
      refine AllReadyH.cons (o := { dst := some 15, op := Go.Op.alloc 3, type := 0, pos := "outright.go:20", after := #[], guard := none }) rfl (fun K hK => ?_) ?_
      · skip
        go_simp
        refine hK.out _ _ ?_ (fun hHeld => ?_)
        · ((try dsimp only); first | with_reducible exact hJ | with_reducible exact HKf.out _ (gn_alloc G.out _) | with_reducible exact HKf.out _ (gn_drew (gn_alloc G.out _)) | with_reducible exact hJ1 | with_reducible exact hJ2 | with_reducible exact hJ0 | exact hJ2)
        clear hK K
        try simp only [Act.put, List.setIfInBounds_toArray, List.set_cons_zero, List.set_cons_succ]
        obtain ⟨wx26, hnw⟩ : ∃ wx26, wb.alloc (.cells #[.int .i64 0] 3) = wx26 := ⟨_, rfl⟩
        obtain ⟨b5, hnb⟩ : ∃ b5, wb.heap.size = b5 := ⟨_, rfl⟩
        have HB5 : Hid (wx26.heap[b5]? = some (.cells [Value.int .i64 0].toArray 3 (0, 0))) := by rw [← hnw, ← hnb]; exact heap_alloc_new wb _
        have HG5 : Hid (wb.heap.size ≤ b5) := by rw [← hnb]; exact grownBy_size G.out
        have G : Hid (wb.grownBy wx26 none) := by rw [← hnw]; exact gn_alloc G.out _
        have hJ := HKf.out _ (gn_drew G.out)
        rw [hnw, hnb]
        clear hnw hnb
        refine wpAnyH_ready (rs := [4, 10]) (by kernel_rfl) (by simp) ?_
        refine AllReadyH.cons (o := { dst := some 49, op := Go.Op.call { callee := Go.Callee.value (Go.Operand.func 33), args := #[Go.Operand.tmp 48], argTypes := #[48] }, type := 48, pos := "outright.go:20", after := #[{ on := 3, ground := Go.Ground.data }], guard := none }) rfl (fun K hK => ?_) ?_
        · skip
          go_simp
          refine (HCp.out _ (gn_drew G.out)).mono ?_
          rintro e wx27 ⟨so2, c2, rfl, hR2, gx⟩
          have HR2 := hide hR2
          have HB5 := hide ((gx.block _ (row_lt HB5.out) (by simp)).trans HB5.out)
          have G : Hid (wb.grownBy wx27 none) := grown_trans (gn_drew G.out) gx
          have hJ := HKf.out _ G.out
          clear gx hR2
          go_wp2_with fail
          refine hK.out _ _ ?_ (fun hHeld => ?_)
          · ((try dsimp only); first | with_reducible exact hJ | with_reducible exact HKf.out _ (gn_alloc G.out _) | with_reducible exact HKf.out _ (gn_drew (gn_alloc G.out _)) | with_reducible exact hJ1 | with_reducible exact hJ2 | with_reducible exact hJ0 | exact hJ2)
          clear hK K
          try simp only [Act.put, List.setIfInBounds_toArray, List.set_cons_zero, List.set_cons_succ]
          refine wpAnyH_ready (rs := [5, 10]) (by kernel_rfl) (by simp) ?_
          refine AllReadyH.cons (o := { dst := some 50, op := Go.Op.call { callee := Go.Callee.value (Go.Operand.func 10), args := #[Go.Operand.tmp 45, Go.Operand.tmp 49], argTypes := #[23, 48] }, type := 43, pos := "outright.go:20", after := #[{ on := 0, ground := Go.Ground.data }, { on := 4, ground := Go.Ground.data }, { on := 4, ground := Go.Ground.chain }], guard := none }) rfl (fun K hK => ?_) ?_
          · skip
            go_simp
            refine (HOf2.out _ _ _ G.out HR2.out).mono ?_
            rintro e wx28 ⟨d, p, rfl, hL, gx⟩
            have HN5 : Hid (¬ p.own b5) := fun e => by have h1 := hL.own _ e; have h2 := row_lt HB5.out; exact absurd h2 (Nat.not_lt.2 h1)
            have HB5 := hide ((gx.block _ (row_lt HB5.out) (by simp)).trans HB5.out)
            have HL : Hid (Lb wb wx28 d S2 p) := hL.base (grownBy_size G.out)
            have G : Hid (wb.grownBy wx28 none) := grown_trans G.out gx
            have hJ := HKf.out _ G.out
            clear gx hL
            go_wp2_with fail
            refine hK.out _ _ ?_ (fun hHeld => ?_)
            · ((try dsimp only); first | with_reducible exact hJ | with_reducible exact HKf.out _ (gn_alloc G.out _) | with_reducible exact HKf.out _ (gn_drew (gn_alloc G.out _)) | with_reducible exact hJ1 | with_reducible exact hJ2 | with_reducible exact hJ0 | exact hJ2)
            clear hK K
            try simp only [Act.put, List.setIfInBounds_toArray, List.set_cons_zero, List.set_cons_succ]
            refine wpAnyH_take (i := 6) (oi := { dst := some 44, op := Go.Op.move (Go.Operand.tmp 50), type := 43, pos := "outright.go:20", after := #[{ on := 5, ground := Go.Ground.data }], guard := none }) (v := ?_) rfl (by kernel_rfl) (by kernel_rfl) (by kernel_rfl) (fun _ _ _ h => h) (Or.inl ⟨by rfl, ?_⟩) (by assumption) ?_
            rotate_left
            · (intro w hSw; (try dsimp only at hSw); (go_simp <;> with_reducible rfl))
            try simp only [Act.put, List.setIfInBounds_toArray, List.set_cons_zero, List.set_cons_succ]
            refine wpAnyH_take (i := 7) (oi := { dst := some 51, op := Go.Op.extract (Go.Operand.tmp 44) 0, type := 27, pos := "outright.go:20", after := #[{ on := 6, ground := Go.Ground.data }], guard := none }) (v := ?_) rfl (by kernel_rfl) (by kernel_rfl) (by kernel_rfl) (fun _ _ _ h => h) (Or.inl ⟨by rfl, ?_⟩) (by assumption) ?_
            rotate_left
            · (intro w hSw; (try dsimp only at hSw); (go_simp <;> with_reducible rfl))
            try simp only [Act.put, List.setIfInBounds_toArray, List.set_cons_zero, List.set_cons_succ]
            refine wpAnyH_take (i := 8) (oi := { dst := some 52, op := Go.Op.extract (Go.Operand.tmp 44) 1, type := 3, pos := "outright.go:20", after := #[{ on := 6, ground := Go.Ground.data }, { on := 12, ground := Go.Ground.gcOnly Go.Departure.lateStores }], guard := none }) (v := ?_) rfl (by kernel_rfl) (by kernel_rfl) (by kernel_rfl) (fun _ _ _ h => h) (Or.inl ⟨by rfl, ?_⟩) (by assumption) ?_
            rotate_left
            · (intro w hSw; (try dsimp only at hSw); (go_simp <;> with_reducible rfl))
            try simp only [Act.put, List.setIfInBounds_toArray, List.set_cons_zero, List.set_cons_succ]
            refine wpAnyH_take (i := 9) (oi := { dst := some 53, op := Go.Op.extract (Go.Operand.tmp 44) 2, type := 24, pos := "outright.go:20", after := #[{ on := 6, ground := Go.Ground.data }, { on := 13, ground := Go.Ground.gcOnly Go.Departure.lateStores }], guard := none }) (v := ?_) rfl (by kernel_rfl) (by kernel_rfl) (by kernel_rfl) (fun _ _ _ h => h) (Or.inl ⟨by rfl, ?_⟩) (by assumption) ?_
            rotate_left
            · (intro w hSw; (try dsimp only at hSw); (go_simp <;> with_reducible rfl))
            try simp only [Act.put, List.setIfInBounds_toArray, List.set_cons_zero, List.set_cons_succ]
            refine wpAnyH_ready (rs := [10]) (by kernel_rfl) (by simp) ?_
            refine AllReadyH.cons (o := { dst := some 14, op := Go.Op.alloc 27, type := 0, pos := "outright.go:20", after := #[], guard := none }) rfl (fun K hK => ?_) ?_
            rotate_left
            · exact AllReadyH.nil
            go_simp
            refine hK.out _ _ ?_ (fun hHeld => ?_)
            · ((try dsimp only); first | with_reducible exact hJ | with_reducible exact HKf.out _ (gn_alloc G.out _) | with_reducible exact HKf.out _ (gn_drew (gn_alloc G.out _)) | with_reducible exact hJ1 | with_reducible exact hJ2 | with_reducible exact hJ0 | exact hJ2)
            clear hK K
            try simp only [Act.put, List.setIfInBounds_toArray, List.set_cons_zero, List.set_cons_succ]
            obtain ⟨wx29, hnw⟩ : ∃ wx29, wx28.alloc (.cells #[.pointer none] 27) = wx29 := ⟨_, rfl⟩
            obtain ⟨b4, hnb⟩ : ∃ b4, wx28.heap.size = b4 := ⟨_, rfl⟩
            have HB4 : Hid (wx29.heap[b4]? = some (.cells [Value.pointer none].toArray 27 (0, 0))) := by rw [← hnw, ← hnb]; exact heap_alloc_new wx28 _
            have HG4 : Hid (wb.heap.size ≤ b4) := by rw [← hnb]; exact grownBy_size G.out
            have HB5 : Hid (wx29.heap[b5]? = some (.cells [Value.int .i64 0].toArray 3 (0, 0))) := by rw [← hnw]; exact keep1 _ _ HB5.out
            have HN4 : Hid (¬ p.own b4) := fun e => by have h1 := HL.out.bk.lt _ e; rw [← hnb] at h1; exact Nat.lt_irrefl _ h1
            have HL : Hid (Lb wb wx29 d S2 p) := by rw [← hnw]; exact HL.out.then (grown_alloc _ _)
            have G : Hid (wb.grownBy wx29 none) := by rw [← hnw]; exact gn_alloc G.out _
            have hJ := HKf.out _ G.out
            rw [hnw, hnb]
            clear hnw hnb
            have HY : Hid (Py wb wx29 b4 b5 d S2 p) := ⟨HB4.out, HB5.out, G.out, HL.out, HN4.out, HN5.out, HG4.out, HG5.out⟩
            have HZ := hide (HY.out.two m2)
            have hJ1 := HKf.out _ HY.out.one.2.2.1
            have hJ2 := HKf.out _ HZ.out.gr
            have y4 : wx29.cell? ⟨b4, 0, none⟩ = some (.pointer none) := by have := cell_row HY.out.c4 0; simpa using this
            have z4 : wx29.frozen? ⟨b4, 0, none⟩ = false := free_row HY.out.c4 0
            have y5 : (wx29.setCell ⟨b4, 0, none⟩ (.pointer (some ⟨d, 0, none⟩))).cell? ⟨b5, 0, none⟩ = some (.int .i64 0) := by have := cell_row HY.out.one.2.1 0; simpa using this
            have z5 : (wx29.setCell ⟨b4, 0, none⟩ (.pointer (some ⟨d, 0, none⟩))).frozen? ⟨b5, 0, none⟩ = false := free_row HY.out.one.2.1 0
            refine wpAnyH_ready (rs := [12]) (by kernel_rfl) (by simp) ?_
            refine AllReadyH.cons (o := { dst := none, op := Go.Op.store 27 (Go.Operand.tmp 14) (Go.Operand.tmp 51), type := 0, pos := "outright.go:20", after := #[{ on := 10, ground := Go.Ground.data }, { on := 7, ground := Go.Ground.data }, { on := 5, ground := Go.Ground.chain }, { on := 0, ground := Go.Ground.phase }, { on := 1, ground := Go.Ground.phase }, { on := 2, ground := Go.Ground.phase }, { on := 3, ground := Go.Ground.phase }, { on := 4, ground := Go.Ground.phase }, { on := 5, ground := Go.Ground.phase }, { on := 6, ground := Go.Ground.phase }, { on := 7, ground := Go.Ground.phase }, { on := 8, ground := Go.Ground.textOnly Go.Departure.lateStores }, { on := 9, ground := Go.Ground.textOnly Go.Departure.lateStores }, { on := 10, ground := Go.Ground.phase }, { on := 11, ground := Go.Ground.phase }], guard := none }) rfl (fun K hK => ?_) ?_
            rotate_left
            · exact AllReadyH.nil
            go_simp
            refine hK.out _ _ ?_ (fun hHeld => ?_)
            · ((try dsimp only); first | with_reducible exact hJ | with_reducible exact HKf.out _ (gn_alloc G.out _) | with_reducible exact HKf.out _ (gn_drew (gn_alloc G.out _)) | with_reducible exact hJ1 | with_reducible exact hJ2 | with_reducible exact hJ0 | exact hJ2)
            clear hK K
            try simp only [Act.put, List.setIfInBounds_toArray, List.set_cons_zero, List.set_cons_succ]
            refine wpAnyH_ready (rs := [13]) (by kernel_rfl) (by simp) ?_
            refine AllReadyH.cons (o := { dst := none, op := Go.Op.store 3 (Go.Operand.tmp 15) (Go.Operand.tmp 52), type := 0, pos := "outright.go:20", after := #[{ on := 11, ground := Go.Ground.data }, { on := 8, ground := Go.Ground.data }, { on := 12, ground := Go.Ground.chain }, { on := 0, ground := Go.Ground.phase }, { on := 1, ground := Go.Ground.phase }, { on := 2, ground := Go.Ground.phase }, { on := 3, ground := Go.Ground.phase }, { on := 4, ground := Go.Ground.phase }, { on := 5, ground := Go.Ground.phase }, { on := 6, ground := Go.Ground.phase }, { on := 7, ground := Go.Ground.phase }, { on := 8, ground := Go.Ground.phase }, { on := 9, ground := Go.Ground.textOnly Go.Departure.lateStores }, { on := 10, ground := Go.Ground.phase }, { on := 11, ground := Go.Ground.phase }, { on := 12, ground := Go.Ground.phase }], guard := none }) rfl (fun K hK => ?_) ?_
            rotate_left
            · exact AllReadyH.nil
            go_simp
            refine hK.out _ _ ?_ (fun hHeld => ?_)
            · ((try dsimp only); first | with_reducible exact hJ | with_reducible exact HKf.out _ (gn_alloc G.out _) | with_reducible exact HKf.out _ (gn_drew (gn_alloc G.out _)) | with_reducible exact hJ1 | with_reducible exact hJ2 | with_reducible exact hJ0 | exact hJ2)
            clear hK K
            try simp only [Act.put, List.setIfInBounds_toArray, List.set_cons_zero, List.set_cons_succ]
            refine wpAnyH_take (i := 14) (oi := { dst := some 16, op := Go.Op.assign (Go.Operand.tmp 53), type := 24, pos := "outright.go:20", after := #[{ on := 9, ground := Go.Ground.data }, { on := 13, ground := Go.Ground.chain }, { on := 0, ground := Go.Ground.phase }, { on := 1, ground := Go.Ground.phase }, { on := 2, ground := Go.Ground.phase }, { on := 3, ground := Go.Ground.phase }, { on := 4, ground := Go.Ground.phase }, { on := 5, ground := Go.Ground.phase }, { on := 6, ground := Go.Ground.phase }, { on := 7, ground := Go.Ground.phase }, { on := 8, ground := Go.Ground.phase }, { on := 9, ground := Go.Ground.phase }, { on := 10, ground := Go.Ground.phase }, { on := 11, ground := Go.Ground.phase }, { on := 12, ground := Go.Ground.phase }, { on := 13, ground := Go.Ground.phase }], guard := none }) (v := ?_) rfl (by kernel_rfl) (by kernel_rfl) (by kernel_rfl) (fun _ _ _ h => h) (Or.inl ⟨by rfl, ?_⟩) (by assumption) ?_
            rotate_left
            · (intro w hSw; (try dsimp only at hSw); (go_simp <;> with_reducible rfl))
            try simp only [Act.put, List.setIfInBounds_toArray, List.set_cons_zero, List.set_cons_succ]
            refine wpAnyH_done (by kernel_rfl) ?_ _
            refine NoPanic.normal ?_
            go_wp2
            go_meet
            case rel => exact ⟨_, _, _, _, rfl, rfl, rfl, HZ.out⟩
          refine AllReadyH.cons (o := { dst := some 14, op := Go.Op.alloc 27, type := 0, pos := "outright.go:20", after := #[], guard := none }) rfl (fun K hK => ?_) ?_
          · skip
            go_simp
            refine hK.out _ _ ?_ (fun hHeld => ?_)
            · ((try dsimp only); first | with_reducible exact hJ | with_reducible exact HKf.out _ (gn_alloc G.out _) | with_reducible exact HKf.out _ (gn_drew (gn_alloc G.out _)) | with_reducible exact hJ1 | with_reducible exact hJ2 | with_reducible exact hJ0 | exact hJ2)
            clear hK K
            try simp only [Act.put, List.setIfInBounds_toArray, List.set_cons_zero, List.set_cons_succ]
            obtain ⟨wx30, hnw⟩ : ∃ wx30, wx27.alloc (.cells #[.pointer none] 27) = wx30 := ⟨_, rfl⟩
            obtain ⟨b4, hnb⟩ : ∃ b4, wx27.heap.size = b4 := ⟨_, rfl⟩
            have HB4 : Hid (wx30.heap[b4]? = some (.cells [Value.pointer none].toArray 27 (0, 0))) := by rw [← hnw, ← hnb]; exact heap_alloc_new wx27 _
            have HG4 : Hid (wb.heap.size ≤ b4) := by rw [← hnb]; exact grownBy_size G.out
            have HB5 : Hid (wx30.heap[b5]? = some (.cells [Value.int .i64 0].toArray 3 (0, 0))) := by rw [← hnw]; exact keep1 _ _ HB5.out
            have HR2 : Hid (Rw wx30 wb.heap.size so2 c2 (h.take k)) := by rw [← hnw]; exact HR2.out.then (grown_alloc _ _)
            have G : Hid (wb.grownBy wx30 none) := by rw [← hnw]; exact gn_alloc G.out _
            have hJ := HKf.out _ G.out
            rw [hnw, hnb]
            clear hnw hnb
            refine wpAnyH_ready (rs := [5]) (by kernel_rfl) (by simp) ?_
            refine AllReadyH.cons (o := { dst := some 50, op := Go.Op.call { callee := Go.Callee.value (Go.Operand.func 10), args := #[Go.Operand.tmp 45, Go.Operand.tmp 49], argTypes := #[23, 48] }, type := 43, pos := "outright.go:20", after := #[{ on := 0, ground := Go.Ground.data }, { on := 4, ground := Go.Ground.data }, { on := 4, ground := Go.Ground.chain }], guard := none }) rfl (fun K hK => ?_) ?_
            rotate_left
            · exact AllReadyH.nil
            go_simp
            refine (HOf2.out _ _ _ G.out HR2.out).mono ?_
            rintro e wx31 ⟨d, p, rfl, hL, gx⟩
            have HN5 : Hid (¬ p.own b5) := fun e => by have h1 := hL.own _ e; have h2 := row_lt HB5.out; exact absurd h2 (Nat.not_lt.2 h1)
            have HN4 : Hid (¬ p.own b4) := fun e => by have h1 := hL.own _ e; have h2 := row_lt HB4.out; exact absurd h2 (Nat.not_lt.2 h1)
            have HB5 := hide ((gx.block _ (row_lt HB5.out) (by simp)).trans HB5.out)
            have HB4 := hide ((gx.block _ (row_lt HB4.out) (by simp)).trans HB4.out)
            have HL : Hid (Lb wb wx31 d S2 p) := hL.base (grownBy_size G.out)
            have G : Hid (wb.grownBy wx31 none) := grown_trans G.out gx
            have hJ := HKf.out _ G.out
            clear gx hL
            have HY : Hid (Py wb wx31 b4 b5 d S2 p) := ⟨HB4.out, HB5.out, G.out, HL.out, HN4.out, HN5.out, HG4.out, HG5.out⟩
            have HZ := hide (HY.out.two m2)
            have hJ1 := HKf.out _ HY.out.one.2.2.1
            have hJ2 := HKf.out _ HZ.out.gr
            have y4 : wx31.cell? ⟨b4, 0, none⟩ = some (.pointer none) := by have := cell_row HY.out.c4 0; simpa using this
            have z4 : wx31.frozen? ⟨b4, 0, none⟩ = false := free_row HY.out.c4 0
            have y5 : (wx31.setCell ⟨b4, 0, none⟩ (.pointer (some ⟨d, 0, none⟩))).cell? ⟨b5, 0, none⟩ = some (.int .i64 0) := by have := cell_row HY.out.one.2.1 0; simpa using this
            have z5 : (wx31.setCell ⟨b4, 0, none⟩ (.pointer (some ⟨d, 0, none⟩))).frozen? ⟨b5, 0, none⟩ = false := free_row HY.out.one.2.1 0
            go_wp2_with fail
            refine hK.out _ _ ?_ (fun hHeld => ?_)
            · ((try dsimp only); first | with_reducible exact hJ | with_reducible exact HKf.out _ (gn_alloc G.out _) | with_reducible exact HKf.out _ (gn_drew (gn_alloc G.out _)) | with_reducible exact hJ1 | with_reducible exact hJ2 | with_reducible exact hJ0 | exact hJ2)
            clear hK K
            try simp only [Act.put, List.setIfInBounds_toArray, List.set_cons_zero, List.set_cons_succ]
            refine wpAnyH_take (i := 6) (oi := { dst := some 44, op := Go.Op.move (Go.Operand.tmp 50), type := 43, pos := "outright.go:20", after := #[{ on := 5, ground := Go.Ground.data }], guard := none }) (v := ?_) rfl (by kernel_rfl) (by kernel_rfl) (by kernel_rfl) (fun _ _ _ h => h) (Or.inl ⟨by rfl, ?_⟩) (by assumption) ?_
            rotate_left
            · (intro w hSw; (try dsimp only at hSw); (go_simp <;> with_reducible rfl))
            try simp only [Act.put, List.setIfInBounds_toArray, List.set_cons_zero, List.set_cons_succ]
            refine wpAnyH_take (i := 7) (oi := { dst := some 51, op := Go.Op.extract (Go.Operand.tmp 44) 0, type := 27, pos := "outright.go:20", after := #[{ on := 6, ground := Go.Ground.data }], guard := none }) (v := ?_) rfl (by kernel_rfl) (by kernel_rfl) (by kernel_rfl) (fun _ _ _ h => h) (Or.inl ⟨by rfl, ?_⟩) (by assumption) ?_
            rotate_left
            · (intro w hSw; (try dsimp only at hSw); (go_simp <;> with_reducible rfl))
            try simp only [Act.put, List.setIfInBounds_toArray, List.set_cons_zero, List.set_cons_succ]
            refine wpAnyH_take (i := 8) (oi := { dst := some 52, op := Go.Op.extract (Go.Operand.tmp 44) 1, type := 3, pos := "outright.go:20", after := #[{ on := 6, ground := Go.Ground.data }, { on := 12, ground := Go.Ground.gcOnly Go.Departure.lateStores }], guard := none }) (v := ?_) rfl (by kernel_rfl) (by kernel_rfl) (by kernel_rfl) (fun _ _ _ h => h) (Or.inl ⟨by rfl, ?_⟩) (by assumption) ?_
            rotate_left
            · (intro w hSw; (try dsimp only at hSw); (go_simp <;> with_reducible rfl))
            try simp only [Act.put, List.setIfInBounds_toArray, List.set_cons_zero, List.set_cons_succ]
            refine wpAnyH_take (i := 9) (oi := { dst := some 53, op := Go.Op.extract (Go.Operand.tmp 44) 2, type := 24, pos := "outright.go:20", after := #[{ on := 6, ground := Go.Ground.data }, { on := 13, ground := Go.Ground.gcOnly Go.Departure.lateStores }], guard := none }) (v := ?_) rfl (by kernel_rfl) (by kernel_rfl) (by kernel_rfl) (fun _ _ _ h => h) (Or.inl ⟨by rfl, ?_⟩) (by assumption) ?_
            rotate_left
            · (intro w hSw; (try dsimp only at hSw); (go_simp <;> with_reducible rfl))
            try simp only [Act.put, List.setIfInBounds_toArray, List.set_cons_zero, List.set_cons_succ]
            refine wpAnyH_ready (rs := [12]) (by kernel_rfl) (by simp) ?_
            refine AllReadyH.cons (o := { dst := none, op := Go.Op.store 27 (Go.Operand.tmp 14) (Go.Operand.tmp 51), type := 0, pos := "outright.go:20", after := #[{ on := 10, ground := Go.Ground.data }, { on := 7, ground := Go.Ground.data }, { on := 5, ground := Go.Ground.chain }, { on := 0, ground := Go.Ground.phase }, { on := 1, ground := Go.Ground.phase }, { on := 2, ground := Go.Ground.phase }, { on := 3, ground := Go.Ground.phase }, { on := 4, ground := Go.Ground.phase }, { on := 5, ground := Go.Ground.phase }, { on := 6, ground := Go.Ground.phase }, { on := 7, ground := Go.Ground.phase }, { on := 8, ground := Go.Ground.textOnly Go.Departure.lateStores }, { on := 9, ground := Go.Ground.textOnly Go.Departure.lateStores }, { on := 10, ground := Go.Ground.phase }, { on := 11, ground := Go.Ground.phase }], guard := none }) rfl (fun K hK => ?_) ?_
            rotate_left
            · exact AllReadyH.nil
            go_simp
            refine hK.out _ _ ?_ (fun hHeld => ?_)
            · ((try dsimp only); first | with_reducible exact hJ | with_reducible exact HKf.out _ (gn_alloc G.out _) | with_reducible exact HKf.out _ (gn_drew (gn_alloc G.out _)) | with_reducible exact hJ1 | with_reducible exact hJ2 | with_reducible exact hJ0 | exact hJ2)
            clear hK K
            try simp only [Act.put, List.setIfInBounds_toArray, List.set_cons_zero, List.set_cons_succ]
            refine wpAnyH_ready (rs := [13]) (by kernel_rfl) (by simp) ?_
            refine AllReadyH.cons (o := { dst := none, op := Go.Op.store 3 (Go.Operand.tmp 15) (Go.Operand.tmp 52), type := 0, pos := "outright.go:20", after := #[{ on := 11, ground := Go.Ground.data }, { on := 8, ground := Go.Ground.data }, { on := 12, ground := Go.Ground.chain }, { on := 0, ground := Go.Ground.phase }, { on := 1, ground := Go.Ground.phase }, { on := 2, ground := Go.Ground.phase }, { on := 3, ground := Go.Ground.phase }, { on := 4, ground := Go.Ground.phase }, { on := 5, ground := Go.Ground.phase }, { on := 6, ground := Go.Ground.phase }, { on := 7, ground := Go.Ground.phase }, { on := 8, ground := Go.Ground.phase }, { on := 9, ground := Go.Ground.textOnly Go.Departure.lateStores }, { on := 10, ground := Go.Ground.phase }, { on := 11, ground := Go.Ground.phase }, { on := 12, ground := Go.Ground.phase }], guard := none }) rfl (fun K hK => ?_) ?_
            rotate_left
            · exact AllReadyH.nil
            go_simp
            refine hK.out _ _ ?_ (fun hHeld => ?_)
            · ((try dsimp only); first | with_reducible exact hJ | with_reducible exact HKf.out _ (gn_alloc G.out _) | with_reducible exact HKf.out _ (gn_drew (gn_alloc G.out _)) | with_reducible exact hJ1 | with_reducible exact hJ2 | with_reducible exact hJ0 | exact hJ2)
            clear hK K
            try simp only [Act.put, List.setIfInBounds_toArray, List.set_cons_zero, List.set_cons_succ]
            refine wpAnyH_take (i := 14) (oi := { dst := some 16, op := Go.Op.assign (Go.Operand.tmp 53), type := 24, pos := "outright.go:20", after := #[{ on := 9, ground := Go.Ground.data }, { on := 13, ground := Go.Ground.chain }, { on := 0, ground := Go.Ground.phase }, { on := 1, ground := Go.Ground.phase }, { on := 2, ground := Go.Ground.phase }, { on := 3, ground := Go.Ground.phase }, { on := 4, ground := Go.Ground.phase }, { on := 5, ground := Go.Ground.phase }, { on := 6, ground := Go.Ground.phase }, { on := 7, ground := Go.Ground.phase }, { on := 8, ground := Go.Ground.phase }, { on := 9, ground := Go.Ground.phase }, { on := 10, ground := Go.Ground.phase }, { on := 11, ground := Go.Ground.phase }, { on := 12, ground := Go.Ground.phase }, { on := 13, ground := Go.Ground.phase }], guard := none }) (v := ?_) rfl (by kernel_rfl) (by kernel_rfl) (by kernel_rfl) (fun _ _ _ h => h) (Or.inl ⟨by rfl, ?_⟩) (by assumption) ?_
            rotate_left
            · (intro w hSw; (try dsimp only at hSw); (go_simp <;> with_reducible rfl))
            try simp only [Act.put, List.setIfInBounds_toArray, List.set_cons_zero, List.set_cons_succ]
            refine wpAnyH_done (by kernel_rfl) ?_ _
            refine NoPanic.normal ?_
            go_wp2
            go_meet
            case rel => exact ⟨_, _, _, _, rfl, rfl, rfl, HZ.out⟩
          exact AllReadyH.nil
        refine AllReadyH.cons (o := { dst := some 14, op := Go.Op.alloc 27, type := 0, pos := "outright.go:20", after := #[], guard := none }) rfl (fun K hK => ?_) ?_
        · skip
          go_simp
          refine hK.out _ _ ?_ (fun hHeld => ?_)
          · ((try dsimp only); first | with_reducible exact hJ | with_reducible exact HKf.out _ (gn_alloc G.out _) | with_reducible exact HKf.out _ (gn_drew (gn_alloc G.out _)) | with_reducible exact hJ1 | with_reducible exact hJ2 | with_reducible exact hJ0 | exact hJ2)
          clear hK K
          try simp only [Act.put, List.setIfInBounds_toArray, List.set_cons_zero, List.set_cons_succ]
          obtain ⟨wx32, hnw⟩ : ∃ wx32, wx26.alloc (.cells #[.pointer none] 27) = wx32 := ⟨_, rfl⟩
          obtain ⟨b4, hnb⟩ : ∃ b4, wx26.heap.size = b4 := ⟨_, rfl⟩
          have HB4 : Hid (wx32.heap[b4]? = some (.cells [Value.pointer none].toArray 27 (0, 0))) := by rw [← hnw, ← hnb]; exact heap_alloc_new wx26 _
          have HG4 : Hid (wb.heap.size ≤ b4) := by rw [← hnb]; exact grownBy_size G.out
          have HB5 : Hid (wx32.heap[b5]? = some (.cells [Value.int .i64 0].toArray 3 (0, 0))) := by rw [← hnw]; exact keep1 _ _ HB5.out
          have G : Hid (wb.grownBy wx32 none) := by rw [← hnw]; exact gn_alloc G.out _
          have hJ := HKf.out _ (gn_drew G.out)
          rw [hnw, hnb]
          clear hnw hnb
          refine wpAnyH_ready (rs := [4]) (by kernel_rfl) (by simp) ?_
          refine AllReadyH.cons (o := { dst := some 49, op := Go.Op.call { callee := Go.Callee.value (Go.Operand.func 33), args := #[Go.Operand.tmp 48], argTypes := #[48] }, type := 48, pos := "outright.go:20", after := #[{ on := 3, ground := Go.Ground.data }], guard := none }) rfl (fun K hK => ?_) ?_
          rotate_left
          · exact AllReadyH.nil
          go_simp
          refine (HCp.out _ (gn_drew G.out)).mono ?_
          rintro e wx33 ⟨so2, c2, rfl, hR2, gx⟩
          have HR2 := hide hR2
          have HB5 := hide ((gx.block _ (row_lt HB5.out) (by simp)).trans HB5.out)
          have HB4 := hide ((gx.block _ (row_lt HB4.out) (by simp)).trans HB4.out)
          have G : Hid (wb.grownBy wx33 none) := grown_trans (gn_drew G.out) gx
          have hJ := HKf.out _ G.out
          clear gx hR2
          go_wp2_with fail
          refine hK.out _ _ ?_ (fun hHeld => ?_)
          · ((try dsimp only); first | with_reducible exact hJ | with_reducible exact HKf.out _ (gn_alloc G.out _) | with_reducible exact HKf.out _ (gn_drew (gn_alloc G.out _)) | with_reducible exact hJ1 | with_reducible exact hJ2 | with_reducible exact hJ0 | exact hJ2)
          clear hK K
          try simp only [Act.put, List.setIfInBounds_toArray, List.set_cons_zero, List.set_cons_succ]
          refine wpAnyH_ready (rs := [5]) (by kernel_rfl) (by simp) ?_
          refine AllReadyH.cons (o := { dst := some 50, op := Go.Op.call { callee := Go.Callee.value (Go.Operand.func 10), args := #[Go.Operand.tmp 45, Go.Operand.tmp 49], argTypes := #[23, 48] }, type := 43, pos := "outright.go:20", after := #[{ on := 0, ground := Go.Ground.data }, { on := 4, ground := Go.Ground.data }, { on := 4, ground := Go.Ground.chain }], guard := none }) rfl (fun K hK => ?_) ?_
          rotate_left
          · exact AllReadyH.nil
          go_simp
          refine (HOf2.out _ _ _ G.out HR2.out).mono ?_
          rintro e wx34 ⟨d, p, rfl, hL, gx⟩
          have HN5 : Hid (¬ p.own b5) := fun e => by have h1 := hL.own _ e; have h2 := row_lt HB5.out; exact absurd h2 (Nat.not_lt.2 h1)
          have HN4 : Hid (¬ p.own b4) := fun e => by have h1 := hL.own _ e; have h2 := row_lt HB4.out; exact absurd h2 (Nat.not_lt.2 h1)
          have HB5 := hide ((gx.block _ (row_lt HB5.out) (by simp)).trans HB5.out)
          have HB4 := hide ((gx.block _ (row_lt HB4.out) (by simp)).trans HB4.out)
          have HL : Hid (Lb wb wx34 d S2 p) := hL.base (grownBy_size G.out)
          have G : Hid (wb.grownBy wx34 none) := grown_trans G.out gx
          have hJ := HKf.out _ G.out
          clear gx hL
          have HY : Hid (Py wb wx34 b4 b5 d S2 p) := ⟨HB4.out, HB5.out, G.out, HL.out, HN4.out, HN5.out, HG4.out, HG5.out⟩
          have HZ := hide (HY.out.two m2)
          have hJ1 := HKf.out _ HY.out.one.2.2.1
          have hJ2 := HKf.out _ HZ.out.gr
          have y4 : wx34.cell? ⟨b4, 0, none⟩ = some (.pointer none) := by have := cell_row HY.out.c4 0; simpa using this
          have z4 : wx34.frozen? ⟨b4, 0, none⟩ = false := free_row HY.out.c4 0
          have y5 : (wx34.setCell ⟨b4, 0, none⟩ (.pointer (some ⟨d, 0, none⟩))).cell? ⟨b5, 0, none⟩ = some (.int .i64 0) := by have := cell_row HY.out.one.2.1 0; simpa using this
          have z5 : (wx34.setCell ⟨b4, 0, none⟩ (.pointer (some ⟨d, 0, none⟩))).frozen? ⟨b5, 0, none⟩ = false := free_row HY.out.one.2.1 0
          go_wp2_with fail
          refine hK.out _ _ ?_ (fun hHeld => ?_)
          · ((try dsimp only); first | with_reducible exact hJ | with_reducible exact HKf.out _ (gn_alloc G.out _) | with_reducible exact HKf.out _ (gn_drew (gn_alloc G.out _)) | with_reducible exact hJ1 | with_reducible exact hJ2 | with_reducible exact hJ0 | exact hJ2)
          clear hK K
          try simp only [Act.put, List.setIfInBounds_toArray, List.set_cons_zero, List.set_cons_succ]
          refine wpAnyH_take (i := 6) (oi := { dst := some 44, op := Go.Op.move (Go.Operand.tmp 50), type := 43, pos := "outright.go:20", after := #[{ on := 5, ground := Go.Ground.data }], guard := none }) (v := ?_) rfl (by kernel_rfl) (by kernel_rfl) (by kernel_rfl) (fun _ _ _ h => h) (Or.inl ⟨by rfl, ?_⟩) (by assumption) ?_
          rotate_left
          · (intro w hSw; (try dsimp only at hSw); (go_simp <;> with_reducible rfl))
          try simp only [Act.put, List.setIfInBounds_toArray, List.set_cons_zero, List.set_cons_succ]
          refine wpAnyH_take (i := 7) (oi := { dst := some 51, op := Go.Op.extract (Go.Operand.tmp 44) 0, type := 27, pos := "outright.go:20", after := #[{ on := 6, ground := Go.Ground.data }], guard := none }) (v := ?_) rfl (by kernel_rfl) (by kernel_rfl) (by kernel_rfl) (fun _ _ _ h => h) (Or.inl ⟨by rfl, ?_⟩) (by assumption) ?_
          rotate_left
          · (intro w hSw; (try dsimp only at hSw); (go_simp <;> with_reducible rfl))
          try simp only [Act.put, List.setIfInBounds_toArray, List.set_cons_zero, List.set_cons_succ]
          refine wpAnyH_take (i := 8) (oi := { dst := some 52, op := Go.Op.extract (Go.Operand.tmp 44) 1, type := 3, pos := "outright.go:20", after := #[{ on := 6, ground := Go.Ground.data }, { on := 12, ground := Go.Ground.gcOnly Go.Departure.lateStores }], guard := none }) (v := ?_) rfl (by kernel_rfl) (by kernel_rfl) (by kernel_rfl) (fun _ _ _ h => h) (Or.inl ⟨by rfl, ?_⟩) (by assumption) ?_
          rotate_left
          · (intro w hSw; (try dsimp only at hSw); (go_simp <;> with_reducible rfl))
          try simp only [Act.put, List.setIfInBounds_toArray, List.set_cons_zero, List.set_cons_succ]
          refine wpAnyH_take (i := 9) (oi := { dst := some 53, op := Go.Op.extract (Go.Operand.tmp 44) 2, type := 24, pos := "outright.go:20", after := #[{ on := 6, ground := Go.Ground.data }, { on := 13, ground := Go.Ground.gcOnly Go.Departure.lateStores }], guard := none }) (v := ?_) rfl (by kernel_rfl) (by kernel_rfl) (by kernel_rfl) (fun _ _ _ h => h) (Or.inl ⟨by rfl, ?_⟩) (by assumption) ?_
          rotate_left
          · (intro w hSw; (try dsimp only at hSw); (go_simp <;> with_reducible rfl))
          try simp only [Act.put, List.setIfInBounds_toArray, List.set_cons_zero, List.set_cons_succ]
          refine wpAnyH_ready (rs := [12]) (by kernel_rfl) (by simp) ?_
          refine AllReadyH.cons (o := { dst := none, op := Go.Op.store 27 (Go.Operand.tmp 14) (Go.Operand.tmp 51), type := 0, pos := "outright.go:20", after := #[{ on := 10, ground := Go.Ground.data }, { on := 7, ground := Go.Ground.data }, { on := 5, ground := Go.Ground.chain }, { on := 0, ground := Go.Ground.phase }, { on := 1, ground := Go.Ground.phase }, { on := 2, ground := Go.Ground.phase }, { on := 3, ground := Go.Ground.phase }, { on := 4, ground := Go.Ground.phase }, { on := 5, ground := Go.Ground.phase }, { on := 6, ground := Go.Ground.phase }, { on := 7, ground := Go.Ground.phase }, { on := 8, ground := Go.Ground.textOnly Go.Departure.lateStores }, { on := 9, ground := Go.Ground.textOnly Go.Departure.lateStores }, { on := 10, ground := Go.Ground.phase }, { on := 11, ground := Go.Ground.phase }], guard := none }) rfl (fun K hK => ?_) ?_
          rotate_left
          · exact AllReadyH.nil
          go_simp
          refine hK.out _ _ ?_ (fun hHeld => ?_)
          · ((try dsimp only); first | with_reducible exact hJ | with_reducible exact HKf.out _ (gn_alloc G.out _) | with_reducible exact HKf.out _ (gn_drew (gn_alloc G.out _)) | with_reducible exact hJ1 | with_reducible exact hJ2 | with_reducible exact hJ0 | exact hJ2)
          clear hK K
          try simp only [Act.put, List.setIfInBounds_toArray, List.set_cons_zero, List.set_cons_succ]
          refine wpAnyH_ready (rs := [13]) (by kernel_rfl) (by simp) ?_
          refine AllReadyH.cons (o := { dst := none, op := Go.Op.store 3 (Go.Operand.tmp 15) (Go.Operand.tmp 52), type := 0, pos := "outright.go:20", after := #[{ on := 11, ground := Go.Ground.data }, { on := 8, ground := Go.Ground.data }, { on := 12, ground := Go.Ground.chain }, { on := 0, ground := Go.Ground.phase }, { on := 1, ground := Go.Ground.phase }, { on := 2, ground := Go.Ground.phase }, { on := 3, ground := Go.Ground.phase }, { on := 4, ground := Go.Ground.phase }, { on := 5, ground := Go.Ground.phase }, { on := 6, ground := Go.Ground.phase }, { on := 7, ground := Go.Ground.phase }, { on := 8, ground := Go.Ground.phase }, { on := 9, ground := Go.Ground.textOnly Go.Departure.lateStores }, { on := 10, ground := Go.Ground.phase }, { on := 11, ground := Go.Ground.phase }, { on := 12, ground := Go.Ground.phase }], guard := none }) rfl (fun K hK => ?_) ?_
          rotate_left
          · exact AllReadyH.nil
          go_simp
          refine hK.out _ _ ?_ (fun hHeld => ?_)
          · ((try dsimp only); first | with_reducible exact hJ | with_reducible exact HKf.out _ (gn_alloc G.out _) | with_reducible exact HKf.out _ (gn_drew (gn_alloc G.out _)) | with_reducible exact hJ1 | with_reducible exact hJ2 | with_reducible exact hJ0 | exact hJ2)
          clear hK K
          try simp only [Act.put, List.setIfInBounds_toArray, List.set_cons_zero, List.set_cons_succ]
          refine wpAnyH_take (i := 14) (oi := { dst := some 16, op := Go.Op.assign (Go.Operand.tmp 53), type := 24, pos := "outright.go:20", after := #[{ on := 9, ground := Go.Ground.data }, { on := 13, ground := Go.Ground.chain }, { on := 0, ground := Go.Ground.phase }, { on := 1, ground := Go.Ground.phase }, { on := 2, ground := Go.Ground.phase }, { on := 3, ground := Go.Ground.phase }, { on := 4, ground := Go.Ground.phase }, { on := 5, ground := Go.Ground.phase }, { on := 6, ground := Go.Ground.phase }, { on := 7, ground := Go.Ground.phase }, { on := 8, ground := Go.Ground.phase }, { on := 9, ground := Go.Ground.phase }, { on := 10, ground := Go.Ground.phase }, { on := 11, ground := Go.Ground.phase }, { on := 12, ground := Go.Ground.phase }, { on := 13, ground := Go.Ground.phase }], guard := none }) (v := ?_) rfl (by kernel_rfl) (by kernel_rfl) (by kernel_rfl) (fun _ _ _ h => h) (Or.inl ⟨by rfl, ?_⟩) (by assumption) ?_
          rotate_left
          · (intro w hSw; (try dsimp only at hSw); (go_simp <;> with_reducible rfl))
          try simp only [Act.put, List.setIfInBounds_toArray, List.set_cons_zero, List.set_cons_succ]
          refine wpAnyH_done (by kernel_rfl) ?_ _
          refine NoPanic.normal ?_
          go_wp2
          go_meet
          case rel => exact ⟨_, _, _, _, rfl, rfl, rfl, HZ.out⟩
        exact AllReadyH.nil
      exact AllReadyH.nil
  case rest =>
    obtain ⟨b4, b5, d, p, rfl, rfl, rfl, HC⟩ := hcut
    have gb := HC.out.gr
    have c11 : wc.cell? ⟨B11, 0, none⟩ = some (.pointer (some ⟨d1, 0, none⟩)) := gb.cell (by have := cell_row HBx.out.1 0; simpa using this) (by simp)
    have c12 : wc.cell? ⟨B11 + 1, 0, none⟩ = some (.int .i64 (n : Int)) := gb.cell (by have := cell_row HBx.out.2.1 0; simpa using this) (by simp)
    have c14 : wc.cell? ⟨b4, 0, none⟩ = some (.pointer (some ⟨d, 0, none⟩)) := by have := cell_row HC.out.c4 0; simpa using this
    have c15 : wc.cell? ⟨b5, 0, none⟩ = some (.int .i64 m2) := by have := cell_row HC.out.c5 0; simpa using this
    obtain ⟨s0, s1, s2⟩ := HKf.out wc gb
    have hm2 : m2 = (m : Int) := HSm2.out.2.symm
    obtain ⟨hRan, hmn, hef, hmem, hOk0, hT⟩ := HNum.out
    have hnh := hRan.le
    have HRc := hide (HRb.out.then gb)
    have HStc := hide (HStt.out wc _ so1 cp1 (grown_trans GWb.out gb) HRc.out)
    have HB8b : Hid (wb.heap[w.heap.size]? = some (.cells [Value.bool false].toArray 4 (0, 0))) := (G2b.out.block _ (row_lt HB8.out) (by simp)).trans HB8.out
    have HWz : Hid (w.heap.size < wb.heap.size) := row_lt HB8b.out
    have q1' : ¬ (h.length : Int) < (n : Int) := by omega
    clear HKf HCp HOf2 HStt HSp HRb HB8 G2b G2 HSh hsl hw1
    by_cases hkn : k ≤ n
    · have hef0 : ef = 0 := by rw [hef, if_pos hkn]
      have hmMN : m = k := hmn.2.2.1 hkn
      obtain rfl : m2 = (k : Int) := by rw [hm2, hmMN]
      subst hef0
      have q6 : (k : Int) ≤ (n : Int) := by omega
      have HD := hide (And.intro hRan (And.intro hmem (And.intro hOk0 (And.intro hT hmn))))
      have HMq := hide hmMN
      have HLe := hide (And.intro hkl (And.intro hlen hnh))
      clear hRan hmem hOk0 hT hef hmn hm2 hmMN hkl hlen hnh hkn
      have hmin : ∀ (W : World) (ts : Array TypeId) (t : TypeId), (Builtin.min_ ts t #[.int .i64 (n : Int), .int .i64 (k : Int)]).run Tryz.prog W = .ok (.int .i64 (k : Int)) W := fun W ts t => by rw [run_min_int2]; congr 2; split <;> omega
      have HCap := hide hcp
      clear hcp
      go_wp2_with fail
      clear hmin
      refine HStc.out.mono ?_
      rintro e w7 ⟨vf, rfl, ⟨Bs, Bl, so, cap', rfl, hI, hB⟩, g7⟩
      have HI := hide (And.intro hI hB)
      have gb7 := grown_trans HC.out.gr g7
      have HB7 : Hid (∀ W, w7.grownBy W none → (W.cell? ⟨B11, 0, none⟩ = some (.pointer (some ⟨d1, 0, none⟩)) ∧ W.cell? ⟨B11 + 1, 0, none⟩ = some (.int .i64 (n : Int)) ∧ W.cell? ⟨b4, 0, none⟩ = some (.pointer (some ⟨d, 0, none⟩)) ∧ W.cell? ⟨b5, 0, none⟩ = some (.int .i64 (k : Int))) ∧ BkAt W p1 (fo S0 h n) 10000 ∧ BkAt W p (fo S0 h m) 10000 ∧ RecsAt W so1 h) := by
        intro W gW
        have gcW := grown_trans g7 gW
        refine ⟨⟨gcW.cell c11 (by simp), gcW.cell c12 (by simp), gcW.cell c14 (by simp), gcW.cell c15 (by simp)⟩, HL1.out.1.bk.then (grown_trans gb7 gW), ?_, (HRc.out.then gcW).at⟩
        have := HC.out.bk.bk.then gcW
        rw [← HSm2.out.1] at this
        exact this
      have H7 : Hid (w.grownBy w7 none ∧ wb.grownBy w7 none ∧ wc.heap.size ≤ w7.heap.size) := ⟨grown_trans GWb.out gb7, gb7, g7.size⟩
      clear hI hB g7 HStc c11 c12 c14 c15 s0 s1 s2 gb7 gb
      go_wp2
      refine (wpIn_wide (n := 6)).1 (wpIn_range_F (w := w7) rfl (by decide) (gf := 41) (lb := #[.pointer (some ⟨Bs, 0, none⟩), .pointer (some ⟨Bl, 0, none⟩)]) rfl trivial (enters_of Tryz.func41 (by kernel_rfl) rfl)
        (encs := encS) (R := stR Bs Bl so h.length) (E := fun x => x.2.own) (V := StV S0 h) (S := fun xs => xs.length = n + 1)
        HI.out.1.lt (fun W hW => HSq.out Bs Bl so cap' W (HI.out.1.grown hW)) (fun _ => rfl) (fun pre x A B h k => StV.keep h k)
        (fun _ O W => GrI w7 W O) (fun _ _ _ _ => False)
        (GrI.goes w7) (fun _ _ _ _ _ _ h _ _ => h) ⟨grown_refl _ _, fun _ e => e.elim⟩
        ?afr1 ?assign1 ?body1 ?done1 ?stop1)
      case assign1 =>
        intro l y W K hK
        simp only [encS]
        gi_wp2
        exact hK
      case stop1 =>
        rintro D cd pre O W hD hX
        exact hX.elim
      case body1 =>
        rintro l pre y O W hI hV hsz hE hO
        obtain ⟨⟨e11, e12, e14, e15⟩, f1, f2, -⟩ := HB7.out W hI.gr
        obtain ⟨v1, -, v3⟩ := HSv.out pre y W hV
        obtain ⟨PQ, hPQ⟩ : ∃ PQ, PQ = postW (fun i => O i ∨ stR Bs Bl so h.length i) O (fun (_ : List (Nat × Bp)) O W => GrI w7 W O) (fun _ _ _ _ => False) (pre ++ [y]) W := ⟨_, rfl⟩
        rw [← hPQ]
        have HPn : Hid (∀ (a' : Act) (W' : World), W.grownBy W' none → PQ .normal a' W') := by
          intro a' W' h1
          rw [hPQ]
          exact ⟨Kept.new h1 _, grown_trans hI.gr h1, hI.no⟩
        have HSa : Hid (y.1 = m → Calls Tryz.prog 34 #[.pointer (some ⟨y.2.b, 0, none⟩), .pointer (some ⟨d, 0, none⟩)] W fun e w' => e = .returned (.bool true) ∧ W.grownBy w' none) := fun e => HSm.out W y.1 m y.2 p d _ _ v3 f2 HC.out.bk.eb e
        have HSb : Hid (∀ W', W.grownBy W' none → y.1 = n → Calls Tryz.prog 34 #[.pointer (some ⟨y.2.b, 0, none⟩), .pointer (some ⟨d1, 0, none⟩)] W' fun e w' => e = .returned (.bool true) ∧ W'.grownBy w' none) := fun W' gW' e => HSm.out W' y.1 n y.2 p1 d1 _ _ (v3.then gW') (f1.then gW') HL1.out.1.eb e
        have HB8' : Hid (∀ W', W.grownBy W' none → W'.cell? ⟨B11, 0, none⟩ = some (.pointer (some ⟨d1, 0, none⟩)) ∧ W'.cell? ⟨B11 + 1, 0, none⟩ = some (.int .i64 (n : Int))) := fun W' gW' => ⟨gW'.cell e11 (by simp), gW'.cell e12 (by simp)⟩
        clear hPQ hV hI hE hO hsz f1 f2 v3
        generalize y.1 = yi at *
        generalize y.2.b = yb at *
        have q5 : ¬ (n : Int) < (yi : Int) := by omega
        by_cases hym : yi = k
        · have r1 : ((yi : Int) == (k : Int)) = true := by rw [hym]; simp
          have r2 : decide ((yi : Int) = (k : Int)) = true := by rw [hym]; simp
          have HSa' := hide (HSa.out (by rw [hym, HMq.out]))
          clear HSa
          gi_wp2_with fail
          refine ⟨trivial, ?_⟩
          refine (CallsIn.inRound l (callsIn_wide.2 HSa'.out)).mono ?_
          rintro e w8 ⟨rfl, g8⟩
          obtain ⟨e11', e12'⟩ := HB8'.out w8 g8
          by_cases hyn : yi = n
          · have r3 : ((yi : Int) == (n : Int)) = true := by rw [hyn]; simp
            have r4 : decide ((yi : Int) = (n : Int)) = true := by rw [hyn]; simp
            have HSb' := hide (HSb.out w8 g8 hyn)
            have H8 := hide g8
            clear HSb g8
            gi_wp2_with fail
            refine ⟨trivial, ?_⟩
            refine (CallsIn.inRound l (callsIn_wide.2 HSb'.out)).mono ?_
            rintro e w9 ⟨rfl, g9⟩
            have HF := hide (fun a' => HPn.out a' w9 (grown_trans H8.out g9))
            clear g9 HPn
            gi_wp2
            exact HF.out _
          · have r3 : ((yi : Int) == (n : Int)) = false := by simp; omega
            have r4 : decide ((yi : Int) = (n : Int)) = false := by simp; omega
            have HF := hide (fun a' => HPn.out a' w8 g8)
            clear g8 HPn HSb
            first
              | exact absurd hym hyn
              | (gi_wp2
                 refine ⟨trivial, ?_⟩
                 gi_wp2
                 exact HF.out _)
        · have r1 : ((yi : Int) == (k : Int)) = false := by simp; omega
          have r2 : decide ((yi : Int) = (k : Int)) = false := by simp; omega
          clear HSa
          gi_wp2
          refine ⟨trivial, ?_⟩
          by_cases hyn : yi = n
          · have r3 : ((yi : Int) == (n : Int)) = true := by rw [hyn]; simp
            have r4 : decide ((yi : Int) = (n : Int)) = true := by rw [hyn]; simp
            have HSb' := hide (HSb.out W (grown_refl _ _) hyn)
            clear HSb
            gi_wp2_with fail
            refine ⟨trivial, ?_⟩
            refine (CallsIn.inRound l (callsIn_wide.2 HSb'.out)).mono ?_
            rintro e w9 ⟨rfl, g9⟩
            have HF := hide (fun a' => HPn.out a' w9 g9)
            clear g9 HPn
            gi_wp2
            exact HF.out _
          · have r3 : ((yi : Int) == (n : Int)) = false := by simp; omega
            have r4 : decide ((yi : Int) = (n : Int)) = false := by simp; omega
            have HF := hide (fun a' => HPn.out a' W (grown_refl _ _))
            clear HPn HSb
            gi_wp2
            refine ⟨trivial, ?_⟩
            gi_wp2
            exact HF.out _
      case done1 =>
        rintro D xs O W hD hS hI hOD hK
        obtain ⟨⟨e11, e12, e14, e15⟩, f1, f2, fr⟩ := HB7.out W hI.gr
        have gW := grown_trans H7.out.1 hI.gr
        have gbW := grown_trans H7.out.2.1 hI.gr
        have b8 := (gbW.block _ (row_lt HB8b.out) (by simp)).trans HB8b.out
        have hwz := HWz.out
        have hD2 : wb.heap.size ≤ D := by have := H7.out.2.1.size; omega
        obtain ⟨hRan, hmem, hOk0, hT, hmn⟩ := HD.out
        obtain ⟨hkl, hlen, hnh⟩ := HLe.out
        have hkn' : k ≤ n := by omega
        have hWs := gbW.size
        rw [HMq.out] at f2
        have hp1 : ∀ i, p.own i → wb.heap.size ≤ i ∧ i < wc.heap.size := fun i hi => ⟨HC.out.bk.own i hi, HC.out.bk.bk.lt i hi⟩
        have hB11 := HBx.out.2.2
        have hw0 := GWb.out.size
        have HPut : Hid (∀ (wr : World) (j : Nat) (r : Rc), W.grownBy wr none → h[j]? = some r → Calls Tryz.prog 35 #[.agg #[.int .i64 r.k, .int .u32 r.i, .int .i64 r.s, .int .i64 r.u, .int .i64 r.c]] wr fun e w' => ∃ g, e = .returned (.tuple #[.slice (some ⟨g, 0, none⟩) (sz r.k) (sz r.k), .int .i64 (Rk.chk r)]) ∧ wr.heap.size ≤ g ∧ w'.heap[g]? = some (.cells (r.out.map (Value.int .u8)).toArray 5 (0, 0)) ∧ wr.grownBy w' none) := by
          intro wr j r g hr
          have hr' := hmem r (List.mem_of_getElem? hr)
          refine (Rk.put_rec r hr'.2 wr (hT.new (grown_trans gW g))).mono ?_
          rintro e w' ⟨v, rfl, hP, g'⟩
          rcases hP with ⟨-, gg, rfl, h1, h2⟩ | ⟨hn, -⟩
          · exact ⟨gg, rfl, h1, h2, g'⟩
          · exact absurd hr'.1 hn
        have HRun : Hid (∀ (wr : World) (vq : Option Addr) (mq cq : Nat), PaS W wr h k h.length (.slice vq mq cq) → Calls Tryz.prog 9 #[.pointer (some ⟨d, 0, none⟩), .slice vq mq cq] wr fun e w' => ∃ q, e = .returned (.tuple #[.int .i64 ((n - k : Nat) : Int), .int .i64 er]) ∧ BkAt w' q (fo S0 h n) 20000 ∧ Bst wr w' p q) := by
          intro wr vq mq cq hs
          obtain ⟨fs, h1, h2, h3, h4, h5⟩ := hs.fms
          obtain ⟨b1, b2, b3⟩ := b_out (fo S0 h k) (h.drop k) (fun r hr => hmem r (List.mem_of_mem_drop hr))
          obtain ⟨u1, u2⟩ := (ran_is (fo S0 h k) (h.drop k)).uniq (hRan.drop k hkn')
          rw [List.take_length] at h3
          have := run_any (cap := cq) (f2.then hs.gr) (fo_ok hOk0 h k) (by omega) (hT.new (grown_trans gW hs.gr)) (by omega) h4 (fun i hi => ⟨fun e => by have := f2.lt i e; omega, hi.2⟩) f2.z0 h5
          rw [h3, b1, b2, b3, u1, u2, h1, HC.out.bk.eb, fo_drop, show k + (n - k) = n by omega] at this
          refine this.mono ?_
          rintro e w' ⟨q, rfl, hq, hb⟩
          exact ⟨q, rfl, hq.mono (by omega), hb⟩
        have HEnd : Hid (∀ (wr w9 : World) (q : Bp), W.grownBy wr none → BkAt w9 q (fo S0 h n) 20000 → Bst wr w9 p q → (w9.cell? ⟨B11, 0, none⟩ = some (.pointer (some ⟨d1, 0, none⟩)) ∧ w9.cell? ⟨B11 + 1, 0, none⟩ = some (.int .i64 (n : Int)) ∧ w9.cell? ⟨b4, 0, none⟩ = some (.pointer (some ⟨d, 0, none⟩))) ∧ (Calls Tryz.prog 34 #[.pointer (some ⟨d, 0, none⟩), .pointer (some ⟨d1, 0, none⟩)] w9 fun e w' => e = .returned (.bool true) ∧ w9.grownBy w' none) ∧ w.grownBy w9 none ∧ w9.heap[w.heap.size]? = some (.cells [Value.bool false].toArray 4 (0, 0)) ∧ ∀ o, W.heap[D]? = some o → w9.heap[D]? = some o) := by
          intro wr w9 q g hq hb
          have kp := hb.kept
          have n11 : ¬ p.own B11 := fun e => by have := (hp1 _ e).1; omega
          have n12 : ¬ p.own (B11 + 1) := fun e => by have := (hp1 _ e).1; omega
          have n8 : ¬ p.own w.heap.size := fun e => by have := (hp1 _ e).1; omega
          have nD : ¬ p.own D := fun e => by have := (hp1 _ e).2; have := H7.out.2.2; omega
          refine ⟨⟨kp.cell n11 (g.cell e11 (by simp)), kp.cell n12 (g.cell e12 (by simp)), kp.cell HC.out.n4 (g.cell e14 (by simp))⟩, ?_, ?_, ?_, ?_⟩
          · have := HSm.out w9 n n q p1 d1 _ _ hq ((f1.then g).far kp (fun i hi e => by have := HL1.out.2 i hi; have := (hp1 i e).1; omega)) HL1.out.1.eb rfl
            rw [hb.b, HC.out.bk.eb] at this
            exact this
          · exact kept_grown (grown_trans gW g) kp (fun i hi => by have := (hp1 i hi).1; omega)
          · exact kp.at ((g.block _ (row_lt b8) (by simp)).trans b8) n8
          · intro o ho
            exact kp.at ((g.block _ (row_lt ho) (by simp)).trans ho) nD
        have HX := hide (And.intro hK (And.intro hD2 hwz))
        have HFr := hide fr
        have H14 := hide e14
        have HSt0 := hide (PaS.start W h k hkl)
        have HLm := hide (And.intro hlen (And.intro hkl hkn'))
        have HMm : Hid (∀ r ∈ h, r.May ∧ r.Ok) := hmem
        obtain ⟨i0, hi0, hz0, hz1, hz2⟩ := info_parts info41
        have HI0 := hide (And.intro hi0 (And.intro hz0 (And.intro hz1 hz2)))
        clear hi0 hz0 hz1 hz2 hI hK hOD hS HB7 HSm HI HSq HSv H7 f1 f2 gW gbW b8 hD HC HL1 HRc hRan hmem hOk0 hT hmn hkl hlen hnh hkn' hWs hp1 hB11 hw0 hD2 hwz fr e11 e12 e14 e15 HD HLe q6 HNum HBx HCap HSm2 HMq HB8b HWz GWb
        go_wp2
        go_loopg [19, 20] (h.length - k) (fun gk q19 q20 wr => ∃ (j : Nat) (vq : Option Addr) (mq cq : Nat), k ≤ j ∧ gk + j = h.length ∧ q20 = .int .i64 (j : Int) ∧ q19 = .slice vq mq cq ∧ Hid (PaS W wr h k j (.slice vq mq cq)))
        case atStart => exact ⟨k, none, 0, 0, Nat.le_refl _, by have := HLm.out.2.1; omega, rfl, rfl, HSt0.out⟩
        case round =>
          clear HSt0
          obtain ⟨j, vq, mq, cq, hkj, hgj, rfl, rfl, HS⟩ := hrel
          by_cases hk : 0 < gk
          · have hj : j < h.length := by omega
            have l1' : (j : Int) < (h.length : Int) := by omega
            have l0' : (0 : Int) ≤ (j : Int) := by omega
            obtain ⟨r, hr⟩ : ∃ r, h[j]? = some r := ⟨h[j]'hj, List.getElem?_eq_getElem hj⟩
            obtain ⟨rb, off, rfl, k0, k1, k2, k3, k4⟩ := (HFr.out.grown HS.out.gr) j r hr
            have HP := hide (HPut.out wr j r HS.out.gr hr)
            obtain ⟨fs, z1, z2, z3, z4⟩ := HS.out.ex
            have hmq : mq = fs.length := slice_n z3
            have hm1 : mq ≤ 120 := by have := HLm.out.1; omega
            have HM1 := hide hm1
            have hcv : IntKind.u64.wrap (j : Int) = (j : Int) := by rw [IntKind.wrap_u64]; have := HLm.out.1; omega
            have hr' := HMm.out r (List.mem_of_getElem? hr)
            have HPush : Hid (∀ (wp w' : World) (g : Nat) (v' : Value), wr.heap.size ≤ g → wp.heap[g]? = some (.cells (r.out.map (Value.int .u8)).toArray 5 (0, 0)) → wr.grownBy wp none → w'.ownsRow W.heap.size 41 3 v' (mq + 1) (fcs fs ++ [.int .u64 (j : Int), .int .u64 0, .slice (some ⟨g, 0, none⟩) (sz r.k) (sz r.k)]) → (wp.alloc (.cells [Value.int .u64 (j : Int), .int .u64 0, .slice (some ⟨g, 0, none⟩) (sz r.k) (sz r.k)].toArray 41)).grownBy w' (Value.slice vq mq cq).ownBlock → PaS W w' h k (j + 1) v') := fun wp w' g v' hg hb gp hov hgw => PaS.push z1 z2 z3 z4 HS.out.gr hkj hr hr'.2 hr'.1 (out_facts hr'.1).1 gp hg hb (out_facts hr'.1).2 (j : Int) hov hgw
            have HRw : Hid (∀ (wp : World) (g : Nat), wr.grownBy wp none → (wp.alloc (.cells [Value.int .u64 (j : Int), .int .u64 0, .slice (some ⟨g, 0, none⟩) (sz r.k) (sz r.k)].toArray 41)).ownsRow W.heap.size 41 3 (.slice vq mq cq) mq (fcs fs) ∧ (∀ jj u, [Value.int .u64 (j : Int), .int .u64 0, .slice (some ⟨g, 0, none⟩) (sz r.k) (sz r.k)][jj]? = some u → (wp.alloc (.cells [Value.int .u64 (j : Int), .int .u64 0, .slice (some ⟨g, 0, none⟩) (sz r.k) (sz r.k)].toArray 41)).cell? ((⟨wp.heap.size, 0, none⟩ : Addr).add jj) = some u) ∧ W.heap.size ≤ wp.heap.size ∧ ∀ u ∈ [Value.int .u64 (j : Int), .int .u64 0, .slice (some ⟨g, 0, none⟩) (sz r.k) (sz r.k)], u.oneCell' = true) := by
              intro wp g gp
              refine ⟨by have := (own_keep z3 gp).alloc (.cells [Value.int .u64 (j : Int), .int .u64 0, .slice (some ⟨g, 0, none⟩) (sz r.k) (sz r.k)].toArray 41); rw [← hmq] at this; exact this, fun jj u hu => ?_, (grown_trans HS.out.gr gp).size, ?_⟩
              · rw [Addr.add_lit, Nat.zero_add, cell_row (heap_alloc_new wp _)]
                exact hu
              · intro u hu
                simp at hu
                rcases hu with rfl | rfl | rfl <;> rfl
            clear hr z1 z2 z3 z4 hmq hr' hm1 hj
            generalize sz r.k = sr at *
            generalize Rk.chk r = cr at *
            generalize fcs fs = Lt at *
            go_wp2_with fail
            refine HP.out.mono ?_
            rintro e wp ⟨g, rfl, hg, hb, gp⟩
            have HN := hide (fun w' v' => HPush.out wp w' g v' hg hb gp)
            have HRow := hide (HRw.out wp g gp)
            clear hg hb gp HP HPush HRw k0 k1 k2 k3 k4
            go_wp2_with (at_builtin; refine wpList_append_own _ rfl (.tmp 139) (.tmp 144) 42 rfl W.heap.size 41 i0 (.agg #[.int .u64 0, .int .u64 0, .slice none 0 0]) 3 40 Tryz.underlying42 HI0.out.1 HI0.out.2.1 HI0.out.2.2.1 HI0.out.2.2.2 rfl (by decide) (.slice vq mq cq) mq Lt rfl HRow.out.1 ⟨wp.heap.size, 0, none⟩ 1 1 [.int .u64 (j : Int), .int .u64 0, .slice (some ⟨g, 0, none⟩) sr sr] rfl rfl HRow.out.2.1 HRow.out.2.2.2 (by have := HM1.out; unfold maxLen; omega) (by have := HM1.out; omega) (by have := HRow.out.2.2.1; simp; omega) ?_)
            intro v' w' hov hg' hv
            clear hv
            obtain ⟨vo', vc', rfl, -⟩ := Ix.own_form hov
            have HN2 := hide (HN.out _ _ hov hg')
            clear hov hg' HN HRow
            go_wp2
            go_roundg (gk - 1)
            case measure => omega
            case rel =>
              have hl := HLm.out.1
              clear hcv
              exact ⟨j + 1, vo', mq + 1, vc', by omega, by omega, by first | go_num | (refine congrArg _ ?_; rw [Go.IntWalk.wrap64_in _ (by omega)]; omega) | (refine congrArg _ ?_; rw [IntWalk.wrap64_in _ (by omega)]; omega) | (refine congrArg _ ?_; unfold wrap64; omega), rfl, HN2.out⟩
          · have hj : j = h.length := by omega
            subst hj
            have HR := hide (HRun.out wr vq mq cq HS.out)
            have HGr := hide HS.out.gr
            have e14 := HS.out.gr.cell H14.out (by simp)
            have hadd : IntKind.i64.wrap ((k : Int) + ((n - k : Nat) : Int)) = (n : Int) := by rw [IntKind.wrap_i64]; have := HLm.out; omega
            generalize ((n - k : Nat) : Int) = N2 at *
            clear HS HPut HRun H14 HFr HMm hgj hkj hk HI0
            go_wp2_with fail
            refine HR.out.mono ?_
            rintro e w9 ⟨q, rfl, hq, hb⟩
            obtain ⟨⟨x11, x12, x14⟩, hSame, g9, b9, hDk⟩ := HEnd.out wr w9 q HGr.out hq hb
            have HSa := hide hSame
            have HY := hide (And.intro g9 (And.intro b9 hDk))
            clear hSame g9 b9 hDk hq hb HEnd HR e14 HGr
            go_wp2_with fail
            refine HSa.out.mono ?_
            rintro e w10 ⟨rfl, g10⟩
            have HA := hide (HAw.out w10 (grown_trans HY.out.1 g10))
            have G10 := hide g10
            clear g10 HSa HAw
            go_wp2_with fail
            refine HA.out.mono ?_
            rintro e w11 ⟨rfl, g11⟩
            have G11 := hide (grown_trans G10.out g11)
            clear g11 HA G10
            have bb := (G11.out.block _ (row_lt HY.out.2.1) (by simp)).trans HY.out.2.1
            have c0 : w11.cell? ⟨w.heap.size, 0, none⟩ = some (.bool false) := by have := cell_row bb 0; simpa using this
            have f0 := free_row bb 0
            have HZ := hide bb
            clear bb x11 x12 x14
            go_wp2
            obtain ⟨x2, x3, x4⟩ := HX.out
            have x5 := HY.out.2.2 _ x2
            have ks := kept_setCell w11 w.heap.size 0 (.bool true)
            have hK2 := ks.at ((G11.out.block _ (row_lt x5) (by simp)).trans x5) (by omega)
            refine ⟨by simp, .inl ⟨_, _, rfl, run_takeDeferred hK2, ?_⟩⟩
            have kp := Kept.of (grownBy_putObj' (w11.setCell ⟨w.heap.size, 0, none⟩ (.bool true)) D (.deferred none)) (S := fun i => i = D) (fun j e _ => (Option.some.inj e).symm)
            have yy := cell_row (kp.at (row_setCell HZ.out 0 (.bool true)) (by omega)) 0
            refine ⟨_, results_b rfl _ _ w.heap.size (.bool true) rfl (by simpa using yy), rfl, ?_⟩
            exact kept_grown (kept_grown (grown_trans HY.out.1 G11.out) ks (fun i e => by omega)) kp (fun i e => by omega)
    · have her0 : er ≠ 0 := fun e => by have := (hRan.zero).1 e; omega
      have hefe : ef = er := by rw [hef, if_neg hkn]
      have hmMN : m = n := hmn.2.2.2 hkn
      obtain rfl : m2 = (n : Int) := by rw [hm2, hmMN]
      subst hefe
      have q6 : (n : Int) < (k : Int) := by omega
      have q7 : (ef == 0) = false := by simpa using her0
      have q8 : (ef != 0) = true := by simpa using her0
      have q9 : decide (ef = 0) = false := by simpa using her0
      have HMq := hide hmMN
      have HLe := hide (And.intro hkl (And.intro hlen hnh))
      clear hRan hmem hOk0 hT hef hmn hm2 her0 hmMN hkl hlen hnh hkn
      have hmin : ∀ (W : World) (ts : Array TypeId) (t : TypeId), (Builtin.min_ ts t #[.int .i64 (n : Int), .int .i64 (k : Int)]).run Tryz.prog W = .ok (.int .i64 (n : Int)) W := fun W ts t => by rw [run_min_int2]; congr 2; split <;> omega
      have HCap := hide hcp
      clear hcp
      go_wp2_with fail
      clear hmin
      refine HStc.out.mono ?_
      rintro e w7 ⟨vf, rfl, ⟨Bs, Bl, so, cap', rfl, hI, hB⟩, g7⟩
      have HI := hide (And.intro hI hB)
      have gb7 := grown_trans HC.out.gr g7
      have HB7 : Hid (∀ W, w7.grownBy W none → (W.cell? ⟨B11, 0, none⟩ = some (.pointer (some ⟨d1, 0, none⟩)) ∧ W.cell? ⟨B11 + 1, 0, none⟩ = some (.int .i64 (n : Int)) ∧ W.cell? ⟨b4, 0, none⟩ = some (.pointer (some ⟨d, 0, none⟩)) ∧ W.cell? ⟨b5, 0, none⟩ = some (.int .i64 (n : Int))) ∧ BkAt W p1 (fo S0 h n) 10000 ∧ BkAt W p (fo S0 h m) 10000 ∧ RecsAt W so1 h) := by
        intro W gW
        have gcW := grown_trans g7 gW
        refine ⟨⟨gcW.cell c11 (by simp), gcW.cell c12 (by simp), gcW.cell c14 (by simp), gcW.cell c15 (by simp)⟩, HL1.out.1.bk.then (grown_trans gb7 gW), ?_, (HRc.out.then gcW).at⟩
        have := HC.out.bk.bk.then gcW
        rw [← HSm2.out.1] at this
        exact this
      have H7 : Hid (w.grownBy w7 none ∧ wb.grownBy w7 none ∧ wc.heap.size ≤ w7.heap.size) := ⟨grown_trans GWb.out gb7, gb7, g7.size⟩
      clear hI hB g7 HStc c11 c12 c14 c15 s0 s1 s2 gb7 gb
      go_wp2
      refine (wpIn_wide (n := 6)).1 (wpIn_range_F (w := w7) rfl (by decide) (gf := 41) (lb := #[.pointer (some ⟨Bs, 0, none⟩), .pointer (some ⟨Bl, 0, none⟩)]) rfl trivial (enters_of Tryz.func41 (by kernel_rfl) rfl)
        (encs := encS) (R := stR Bs Bl so h.length) (E := fun x => x.2.own) (V := StV S0 h) (S := fun xs => xs.length = n + 1)
        HI.out.1.lt (fun W hW => HSq.out Bs Bl so cap' W (HI.out.1.grown hW)) (fun _ => rfl) (fun pre x A B h k => StV.keep h k)
        (fun _ O W => GrI w7 W O) (fun _ _ _ _ => False)
        (GrI.goes w7) (fun _ _ _ _ _ _ h _ _ => h) ⟨grown_refl _ _, fun _ e => e.elim⟩
        ?afr2 ?assign2 ?body2 ?done2 ?stop2)
      case assign2 =>
        intro l y W K hK
        simp only [encS]
        gi_wp2
        exact hK
      case stop2 =>
        rintro D cd pre O W hD hX
        exact hX.elim
      case body2 =>
        rintro l pre y O W hI hV hsz hE hO
        obtain ⟨⟨e11, e12, e14, e15⟩, f1, f2, -⟩ := HB7.out W hI.gr
        obtain ⟨v1, -, v3⟩ := HSv.out pre y W hV
        obtain ⟨PQ, hPQ⟩ : ∃ PQ, PQ = postW (fun i => O i ∨ stR Bs Bl so h.length i) O (fun (_ : List (Nat × Bp)) O W => GrI w7 W O) (fun _ _ _ _ => False) (pre ++ [y]) W := ⟨_, rfl⟩
        rw [← hPQ]
        have HPn : Hid (∀ (a' : Act) (W' : World), W.grownBy W' none → PQ .normal a' W') := by
          intro a' W' h1
          rw [hPQ]
          exact ⟨Kept.new h1 _, grown_trans hI.gr h1, hI.no⟩
        have HSa : Hid (y.1 = m → Calls Tryz.prog 34 #[.pointer (some ⟨y.2.b, 0, none⟩), .pointer (some ⟨d, 0, none⟩)] W fun e w' => e = .returned (.bool true) ∧ W.grownBy w' none) := fun e => HSm.out W y.1 m y.2 p d _ _ v3 f2 HC.out.bk.eb e
        have HSb : Hid (∀ W', W.grownBy W' none → y.1 = n → Calls Tryz.prog 34 #[.pointer (some ⟨y.2.b, 0, none⟩), .pointer (some ⟨d1, 0, none⟩)] W' fun e w' => e = .returned (.bool true) ∧ W'.grownBy w' none) := fun W' gW' e => HSm.out W' y.1 n y.2 p1 d1 _ _ (v3.then gW') (f1.then gW') HL1.out.1.eb e
        have HB8' : Hid (∀ W', W.grownBy W' none → W'.cell? ⟨B11, 0, none⟩ = some (.pointer (some ⟨d1, 0, none⟩)) ∧ W'.cell? ⟨B11 + 1, 0, none⟩ = some (.int .i64 (n : Int))) := fun W' gW' => ⟨gW'.cell e11 (by simp), gW'.cell e12 (by simp)⟩
        clear hPQ hV hI hE hO hsz f1 f2 v3
        generalize y.1 = yi at *
        generalize y.2.b = yb at *
        have q5 : ¬ (n : Int) < (yi : Int) := by omega
        by_cases hym : yi = n
        · have r1 : ((yi : Int) == (n : Int)) = true := by rw [hym]; simp
          have r2 : decide ((yi : Int) = (n : Int)) = true := by rw [hym]; simp
          have HSa' := hide (HSa.out (by rw [hym, HMq.out]))
          clear HSa
          gi_wp2_with fail
          refine ⟨trivial, ?_⟩
          refine (CallsIn.inRound l (callsIn_wide.2 HSa'.out)).mono ?_
          rintro e w8 ⟨rfl, g8⟩
          obtain ⟨e11', e12'⟩ := HB8'.out w8 g8
          by_cases hyn : yi = n
          · have r3 : ((yi : Int) == (n : Int)) = true := by rw [hyn]; simp
            have r4 : decide ((yi : Int) = (n : Int)) = true := by rw [hyn]; simp
            have HSb' := hide (HSb.out w8 g8 hyn)
            have H8 := hide g8
            clear HSb g8
            gi_wp2_with fail
            refine ⟨trivial, ?_⟩
            refine (CallsIn.inRound l (callsIn_wide.2 HSb'.out)).mono ?_
            rintro e w9 ⟨rfl, g9⟩
            have HF := hide (fun a' => HPn.out a' w9 (grown_trans H8.out g9))
            clear g9 HPn
            gi_wp2
            exact HF.out _
          · have r3 : ((yi : Int) == (n : Int)) = false := by simp; omega
            have r4 : decide ((yi : Int) = (n : Int)) = false := by simp; omega
            have HF := hide (fun a' => HPn.out a' w8 g8)
            clear g8 HPn HSb
            first
              | exact absurd hym hyn
              | (gi_wp2
                 refine ⟨trivial, ?_⟩
                 gi_wp2
                 exact HF.out _)
        · have r1 : ((yi : Int) == (n : Int)) = false := by simp; omega
          have r2 : decide ((yi : Int) = (n : Int)) = false := by simp; omega
          clear HSa
          gi_wp2
          refine ⟨trivial, ?_⟩
          by_cases hyn : yi = n
          · have r3 : ((yi : Int) == (n : Int)) = true := by rw [hyn]; simp
            have r4 : decide ((yi : Int) = (n : Int)) = true := by rw [hyn]; simp
            have HSb' := hide (HSb.out W (grown_refl _ _) hyn)
            clear HSb
            gi_wp2_with fail
            refine ⟨trivial, ?_⟩
            refine (CallsIn.inRound l (callsIn_wide.2 HSb'.out)).mono ?_
            rintro e w9 ⟨rfl, g9⟩
            have HF := hide (fun a' => HPn.out a' w9 g9)
            clear g9 HPn
            gi_wp2
            exact HF.out _
          · have r3 : ((yi : Int) == (n : Int)) = false := by simp; omega
            have r4 : decide ((yi : Int) = (n : Int)) = false := by simp; omega
            have HF := hide (fun a' => HPn.out a' W (grown_refl _ _))
            clear HPn HSb
            gi_wp2
            refine ⟨trivial, ?_⟩
            gi_wp2
            exact HF.out _
      case done2 =>
        rintro D xs O W hD hS hI hOD hK
        obtain ⟨⟨e11, e12, e14, e15⟩, f1, f2, -⟩ := HB7.out W hI.gr
        have gW := grown_trans H7.out.1 hI.gr
        have HSa := hide (HSm.out W m n p p1 d1 _ _ f2 f1 HL1.out.1.eb HMq.out)
        rw [HC.out.bk.eb] at HSa
        have HA : Hid (∀ W', W.grownBy W' none → Calls Tryz.prog 13 #[] W' fun e w' => e = .returned (.bool true) ∧ W'.grownBy w' none) := fun W' gW' => HAw.out W' (grown_trans gW gW')
        have b8 := ((grown_trans H7.out.2.1 hI.gr).block _ (row_lt HB8b.out) (by simp)).trans HB8b.out
        have hwz := HWz.out
        have hD2 : wb.heap.size ≤ D := by have := H7.out.2.1.size; omega
        have HX := hide (And.intro gW (And.intro hK (And.intro b8 hD2)))
        clear hI hK hOD hS HB7 HSm HAw HI HSq HSv H7 f1 f2 gW b8 hD HC HL1 HRc
        go_wp2_with fail
        refine HSa.out.mono ?_
        rintro e w9 ⟨rfl, g9⟩
        have HA9 := hide (HA.out w9 g9)
        have H9 := hide g9
        clear g9 HSa HA
        go_wp2_with fail
        refine HA9.out.mono ?_
        rintro e w10 ⟨rfl, g10⟩
        have G10 := hide (grown_trans H9.out g10)
        clear g10 HA9
        have bb := (G10.out.block _ (row_lt HX.out.2.2.1) (by simp)).trans HX.out.2.2.1
        have c0 : w10.cell? ⟨w.heap.size, 0, none⟩ = some (.bool false) := by have := cell_row bb 0; simpa using this
        have f0 := free_row bb 0
        have HY := hide bb
        clear bb
        go_wp2
        obtain ⟨x1, x2, x3, x4⟩ := HX.out
        have ks := kept_setCell w10 w.heap.size 0 (.bool true)
        have hK2 := ks.at ((G10.out.block _ (row_lt x2) (by simp)).trans x2) (by omega)
        refine ⟨by simp, .inl ⟨_, _, rfl, run_takeDeferred hK2, ?_⟩⟩
        have kp := Kept.of (grownBy_putObj' (w10.setCell ⟨w.heap.size, 0, none⟩ (.bool true)) D (.deferred none)) (S := fun i => i = D) (fun j e _ => (Option.some.inj e).symm)
        have yy := cell_row (kp.at (row_setCell HY.out 0 (.bool true)) (by omega)) 0
        refine ⟨_, results_b rfl _ _ w.heap.size (.bool true) rfl (by simpa using yy), rfl, ?_⟩
        exact kept_grown (kept_grown (grown_trans x1 G10.out) ks (fun i e => by omega)) kp (fun i e => by omega)
end Go.Proofs.YtinkkocleognbaaGreatDoor
