/- The walk of IndexFinds. -/
import Derived.Test.YtoocaioilpgmeaaNn
namespace Go.Proofs.Ytoocaioilpgmeaa
open Go.RowKit Ix Go.Shelf
attribute [local go_sem ↓] Go.wp_at_zero Go.wp_at_succ
theorem wrap_u32 (n : Int) : IntKind.u32.wrap n = n % 4294967296 := by simp [IntKind.wrap, IntKind.bits, IntKind.signed]
theorem Kept.cell {a b : World} {S : Nat → Prop} (h : Kept a b S) {g j : Nat} {u : Value} (hc : a.cell? ⟨g, j, none⟩ = some u) (hS : ¬ S g) : b.cell? ⟨g, j, none⟩ = some u := by
  have hl : g < a.heap.size := by
    unfold World.cell? at hc
    cases hq : a.heap[g]? with
    | none => simp [hq] at hc
    | some o => exact row_lt hq
  have hb := h.block g hl hS
  unfold World.cell? at hc ⊢
  simp only [hb]
  exact hc
/-- Is one of the first i that id? -/
def hr (M : List (Nat × Int)) (i k : Nat) : Bool := (M.take i).any fun x => x.1 == k
theorem hr_next {M : List (Nat × Int)} {i k : Nat} (h : i < M.length) : hr M (i + 1) k = (hr M i k || ((en M i).1 == k)) := by
  unfold hr
  rw [← take_en h, List.any_append]
  simp
theorem hr_all (M : List (Nat × Int)) (k : Nat) : hr M M.length k = (lk M k).isSome := by
  unfold hr lk
  rw [List.take_length, Option.isSome_map, List.isSome_find?]
theorem en_mem {E : List (Nat × Int)} {i : Nat} (h : i < E.length) : en E i ∈ E := by
  unfold en
  rw [List.getElem?_eq_getElem h]
  exact List.getElem_mem h
theorem asc_en {M : List (Nat × Int)} (h : Asc M) {i j : Nat} (hij : i < j) (hj : j < M.length) : (en M i).1 < (en M j).1 := by
  have := List.pairwise_iff_getElem.1 h i j (by omega) hj hij
  unfold en
  rw [List.getElem?_eq_getElem (show i < M.length by omega), List.getElem?_eq_getElem hj]
  exact this
theorem idV_get {M : List (Nat × Int)} {i : Nat} (h : i < M.length) : (idV M)[i]? = some (.int .u64 ((en M i).1 : Int)) := by simp [idV, en, h]
theorem vlV_get {M : List (Nat × Int)} {i : Nat} (h : i < M.length) : (vlV M)[i]? = some (.int .i64 (en M i).2) := by simp [vlV, en, h]
theorem wrap_b (x : Int) : -9223372036854775808 ≤ IntKind.i64.wrap x ∧ IntKind.i64.wrap x ≤ 9223372036854775807 := by rw [IntKind.wrap_i64]; omega
set_option maxRecDepth 100000 in
set_option maxHeartbeats 8000000 in
theorem indexFinds_any (n : Int) (ao : Option Addr) (len cap : Nat) (os : List OpD) (id : Nat) (v : Int) (w : World) (hS : Scr w ao len cap os) (hid : id < 4294967296) (hv0 : -9223372036854775808 ≤ v) (hv1 : v ≤ 9223372036854775807) :
    Calls Try.prog 5 #[.int .i64 n, .slice ao len cap, .int .u32 (id : Int), .int .i64 v] w fun e w' => e = .returned (.bool true) ∧ w.grownBy w' none := by
  have hmd := made_any n ao len cap os w hS
  have HV := hide (And.intro hid (And.intro hv0 hv1))
  have hidw : IntKind.u64.wrap (id : Int) = (id : Int) := by rw [wrap_u64]; omega
  clear hS hid hv0 hv1
  go_enter Try.func5, Try.ntmps5
  go_wp2_with fail
  refine hmd.mono ?_
  clear hmd
  rintro e w2 ⟨p, rfl, -, h2, g2, ho⟩
  generalize plM p.m (os.take 3000) = M at *
  generalize plL (os.take 3000) = lo at *
  have htl := told_io h2
  have H2 := hide (And.intro h2 (And.intro g2 ho))
  clear h2 g2 ho
  go_wp2_with fail
  refine htl.mono ?_
  clear htl
  rintro e w3 ⟨va, vb, rfl, hr1, hr2, g3⟩
  have h3 := H2.out.1.then g3
  have q1 := h3.len
  have q2 := h3.most
  have hfew := h3.few
  obtain ⟨hf1, hf2, -, -⟩ := hfew
  obtain ⟨sa, ca, rfl, -⟩ := own_form hr1
  obtain ⟨sb, cb, rfl, -⟩ := own_form hr2
  obtain ⟨L, hL⟩ : ∃ L, L = M.length := ⟨_, rfl⟩
  have H3 := hide (And.intro h3 (And.intro hr1 (And.intro hr2 (And.intro (grown_trans H2.out.2.1 g3) hL))))
  have HX : Hid (∀ {W W' : World} {g j : Nat} {u : Value}, Kept W W' p.own → w2.heap.size ≤ g → W.cell? ⟨g, j, none⟩ = some u → W'.cell? ⟨g, j, none⟩ = some u) := fun hk hg hc => hk.cell hc (fun e => by have := H2.out.1.lt _ e; omega)
  rw [← hL] at q1 hf1 ⊢
  clear h3 hr1 hr2 g3 hL
  have b1 : decide (p.m < L) = false := by simp; omega
  go_wp2_with fail
  refine q1.mono ?_
  clear q1
  rintro e wx ⟨rfl, hwx⟩
  obtain rfl := hwx.symm
  go_wp2_with fail
  refine q2.mono ?_
  clear q2
  rintro e wx ⟨rfl, hwx⟩
  obtain rfl := hwx.symm
  generalize p.m = m at b1 hf1 hf2
  go_wp2
  go_loopg [13, 14] L (fun q v13 v14 wr => ∃ i : Nat, v14 = .int .i64 (i : Int) ∧ v13 = .bool (hr M i id) ∧ Hid (q = L - i ∧ i ≤ L ∧ (∃ lo, Io wr p M lo) ∧ wr.ownsRow w2.heap.size 56 1 (.slice sa L ca) L (idV M) ∧ wr.ownsRow w2.heap.size 3 1 (.slice sb L cb) L (vlV M) ∧ w.grownBy wr none))
  case atStart => exact ⟨0, rfl, rfl, by simp, Nat.zero_le _, ⟨lo, H3.out.1⟩, by rw [H3.out.2.2.2.2]; have := H3.out.2.1; rw [← H3.out.2.2.2.2] at this ⊢; exact this, by rw [H3.out.2.2.2.2]; have := H3.out.2.2.1; rw [← H3.out.2.2.2.2] at this ⊢; exact this, H3.out.2.2.2.1⟩
  case round =>
    obtain ⟨i, rfl, rfl, HR⟩ := hrel
    by_cases hi : i < L
    · obtain ⟨lo2, hM⟩ := HR.out.2.2.1
      have hiM : i < M.length := by rw [← H3.out.2.2.2.2]; exact hi
      obtain ⟨gi, ci, cui, e1, hgi, hgi2, -, -, -, hti⟩ := own_row HR.out.2.2.2.1 (by omega)
      obtain ⟨gv, cv, cuv, e2, hgv, hgv2, -, -, -, htv⟩ := own_row HR.out.2.2.2.2.1 (by omega)
      cases e1
      cases e2
      have z1 := own_cell hgi2 hti (idV_get hiM)
      have z2 := own_cell hgv2 htv (vlV_get hiM)
      have hmem := en_mem hiM
      have hb := hM.ids _ hmem
      have hlk : lk M (en M i).1 = some (en M i).2 := (lk_some hM.asc).2 hmem
      have hget := get_io hM (en M i).1 hb.1
      rw [hlk] at hget
      simp only [Option.getD, Option.isSome] at hget
      have HN := hide (hr_next (k := id) hiM)
      have HE := hide (And.intro hlk (And.intro hb hiM))
      have hki := hb.1
      obtain ⟨yk, hyk⟩ : ∃ yk, yk = (en M i).1 := ⟨_, rfl⟩
      obtain ⟨yv, hyv⟩ : ∃ yv, yv = (en M i).2 := ⟨_, rfl⟩
      rw [← hyk] at z1 hki
      rw [← hyv] at z2
      rw [← hyk, ← hyv] at hget
      have HY := hide (And.intro hyk hyv)
      have x1 : IntKind.u32.wrap (yk : Int) = (yk : Int) := by rw [wrap_u32]; omega
      have b2 : ((i : Int) < (L : Int)) = True := by simp; omega
      clear hM hiM hgi2 hti hgv2 htv hmem hb hlk hyk hyv
      go_wp2_with fail
      refine hget.mono ?_
      clear hget
      rintro e w4 ⟨rfl, h4, k4⟩
      have z1 := HX.out k4 hgi z1
      have z2 := HX.out k4 hgv z2
      obtain ⟨y1, hy1⟩ : ∃ y1, y1 = IntKind.i64.wrap (yv + 1) := ⟨_, rfl⟩
      have hy2 := hy1.symm
      have hyb := wrap_b (yv + 1)
      rw [hy2] at hyb
      have HPut : Hid (∀ W, w4.grownBy W none → Calls Try.prog 10 #[.pointer (some ⟨p.x, 0, none⟩), .int .u32 (yk : Int), .int .i64 y1] W fun e w' => e = .returned (.int .i64 7) ∧ Io w' p M true ∧ Kept W w' p.own) := by
        intro W hW
        have hp := put_io (h4.then hW) (en M i).1 HE.out.2.1.1 y1 hyb.1 hyb.2
        rw [show putE M (en M i).1 p.m = 7 by simp [putE, HE.out.1], show putM M (en M i).1 p.m y1 = M by simp [putM, HE.out.1], ← HY.out.1] at hp
        exact hp
      have H4 := hide (And.intro h4 k4)
      clear h4 k4 hy1 hyb
      have hrB : ((i : Int) < (i : Int) + 1) = True := by simp; omega
      clear hrB
      rcases Nat.eq_zero_or_pos i with hz | hz
      · have hz1 : decide ((0 : Int) < (i : Int)) = false := by simp; omega
        have hz2 : ¬ ((0 : Int) < (i : Int)) := by omega
        have hz3 : decide (0 < i) = false := by simp; omega
        have HZ := hide hz
        clear hz
        go_wp2
        refine wp_region_held_drew (S := (fun w' =>  w'.cell? ⟨gi, i, none⟩ = some (.int .u64 (yk : Int)) ∧ w'.cell? ⟨gv, i, none⟩ = some (.int .i64 yv))) (by kernel_rfl) ?_ (fun hHeld => ?_)
        · (exact ⟨z1, z2⟩)
        refine wpAnyH_take (i := 0) (oi := { dst := some 67, op := Go.Op.move (Go.Operand.tmp 14), type := 3, pos := "outright.go:50", after := #[], guard := none }) (v := ?_) rfl (by kernel_rfl) (by kernel_rfl) (by kernel_rfl) (fun _ _ _ h => h) (Or.inl ⟨by rfl, ?_⟩) (by assumption) ?_
        rotate_left
        · (intro w hSw; (try dsimp only at hSw); (go_simp <;> with_reducible rfl))
        try simp only [Act.put, List.setIfInBounds_toArray, List.set_cons_zero, List.set_cons_succ]
        refine wpAnyH_take (i := 1) (oi := { dst := some 68, op := Go.Op.binOp Go.BinOp.gtr 3 (Go.Operand.tmp 67) (Go.Operand.const (Go.Value.int Go.IntKind.i64 0)) 3, type := 4, pos := "outright.go:50", after := #[{ on := 0, ground := Go.Ground.data }], guard := none }) (v := ?_) rfl (by kernel_rfl) (by kernel_rfl) (by kernel_rfl) (fun _ _ _ h => h) (Or.inl ⟨by rfl, ?_⟩) (by assumption) ?_
        rotate_left
        · (intro w hSw; (try dsimp only at hSw); (go_simp <;> with_reducible rfl))
        try simp only [Act.put, List.setIfInBounds_toArray, List.set_cons_zero, List.set_cons_succ]
        refine wpAnyH_take (i := 2) (oi := { dst := some 69, op := Go.Op.move (Go.Operand.tmp 68), type := 4, pos := "outright.go:50", after := #[{ on := 1, ground := Go.Ground.data }], guard := none }) (v := ?_) rfl (by kernel_rfl) (by kernel_rfl) (by kernel_rfl) (fun _ _ _ h => h) (Or.inl ⟨by rfl, ?_⟩) (by assumption) ?_
        rotate_left
        · (intro w hSw; (try dsimp only at hSw); (go_simp <;> with_reducible rfl))
        try simp only [Act.put, List.setIfInBounds_toArray, List.set_cons_zero, List.set_cons_succ]
        refine wpAnyH_take (i := 3) (oi := { dst := some 70, op := Go.Op.move (Go.Operand.tmp 11), type := 30, pos := "outright.go:50", after := #[{ on := 2, ground := Go.Ground.guard }], guard := some (2, true) }) (v := undef) rfl (by kernel_rfl) (by kernel_rfl) (by kernel_rfl) (fun _ _ _ h => h) (Or.inr ⟨by rfl, rfl⟩) (by assumption) ?_
        try simp only [Act.put, List.setIfInBounds_toArray, List.set_cons_zero, List.set_cons_succ]
        refine wpAnyH_take (i := 4) (oi := { dst := some 71, op := Go.Op.move (Go.Operand.tmp 14), type := 3, pos := "outright.go:50", after := #[{ on := 2, ground := Go.Ground.guard }], guard := some (2, true) }) (v := undef) rfl (by kernel_rfl) (by kernel_rfl) (by kernel_rfl) (fun _ _ _ h => h) (Or.inr ⟨by rfl, rfl⟩) (by assumption) ?_
        try simp only [Act.put, List.setIfInBounds_toArray, List.set_cons_zero, List.set_cons_succ]
        refine wpAnyH_take (i := 5) (oi := { dst := some 72, op := Go.Op.binOp Go.BinOp.sub 3 (Go.Operand.tmp 71) (Go.Operand.const (Go.Value.int Go.IntKind.i64 1)) 3, type := 3, pos := "outright.go:50", after := #[{ on := 4, ground := Go.Ground.data }, { on := 2, ground := Go.Ground.guard }], guard := some (2, true) }) (v := undef) rfl (by kernel_rfl) (by kernel_rfl) (by kernel_rfl) (fun _ _ _ h => h) (Or.inr ⟨by rfl, rfl⟩) (by assumption) ?_
        try simp only [Act.put, List.setIfInBounds_toArray, List.set_cons_zero, List.set_cons_succ]
        refine wpAnyH_take (i := 6) (oi := { dst := some 73, op := Go.Op.indexAddr 30 (Go.Operand.tmp 70) (Go.Operand.tmp 72), type := 0, pos := "outright.go:50", after := #[{ on := 3, ground := Go.Ground.data }, { on := 5, ground := Go.Ground.data }, { on := 2, ground := Go.Ground.guard }], guard := some (2, true) }) (v := undef) rfl (by kernel_rfl) (by kernel_rfl) (by kernel_rfl) (fun _ _ _ h => h) (Or.inr ⟨by rfl, rfl⟩) (by assumption) ?_
        try simp only [Act.put, List.setIfInBounds_toArray, List.set_cons_zero, List.set_cons_succ]
        refine wpAnyH_take (i := 7) (oi := { dst := some 74, op := Go.Op.load 56 (Go.Operand.tmp 73), type := 56, pos := "outright.go:50", after := #[{ on := 6, ground := Go.Ground.data }, { on := 2, ground := Go.Ground.guard }], guard := some (2, true) }) (v := undef) rfl (by kernel_rfl) (by kernel_rfl) (by kernel_rfl) (fun _ _ _ h => h) (Or.inr ⟨by rfl, rfl⟩) (by assumption) ?_
        try simp only [Act.put, List.setIfInBounds_toArray, List.set_cons_zero, List.set_cons_succ]
        refine wpAnyH_take (i := 8) (oi := { dst := some 75, op := Go.Op.move (Go.Operand.tmp 11), type := 30, pos := "outright.go:50", after := #[{ on := 2, ground := Go.Ground.guard }], guard := some (2, true) }) (v := undef) rfl (by kernel_rfl) (by kernel_rfl) (by kernel_rfl) (fun _ _ _ h => h) (Or.inr ⟨by rfl, rfl⟩) (by assumption) ?_
        try simp only [Act.put, List.setIfInBounds_toArray, List.set_cons_zero, List.set_cons_succ]
        refine wpAnyH_take (i := 9) (oi := { dst := some 76, op := Go.Op.move (Go.Operand.tmp 14), type := 3, pos := "outright.go:50", after := #[{ on := 2, ground := Go.Ground.guard }], guard := some (2, true) }) (v := undef) rfl (by kernel_rfl) (by kernel_rfl) (by kernel_rfl) (fun _ _ _ h => h) (Or.inr ⟨by rfl, rfl⟩) (by assumption) ?_
        try simp only [Act.put, List.setIfInBounds_toArray, List.set_cons_zero, List.set_cons_succ]
        refine wpAnyH_take (i := 10) (oi := { dst := some 77, op := Go.Op.indexAddr 30 (Go.Operand.tmp 75) (Go.Operand.tmp 76), type := 0, pos := "outright.go:50", after := #[{ on := 8, ground := Go.Ground.data }, { on := 9, ground := Go.Ground.data }, { on := 2, ground := Go.Ground.guard }], guard := some (2, true) }) (v := undef) rfl (by kernel_rfl) (by kernel_rfl) (by kernel_rfl) (fun _ _ _ h => h) (Or.inr ⟨by rfl, rfl⟩) (by assumption) ?_
        try simp only [Act.put, List.setIfInBounds_toArray, List.set_cons_zero, List.set_cons_succ]
        refine wpAnyH_take (i := 11) (oi := { dst := some 78, op := Go.Op.load 56 (Go.Operand.tmp 77), type := 56, pos := "outright.go:50", after := #[{ on := 10, ground := Go.Ground.data }, { on := 2, ground := Go.Ground.guard }], guard := some (2, true) }) (v := undef) rfl (by kernel_rfl) (by kernel_rfl) (by kernel_rfl) (fun _ _ _ h => h) (Or.inr ⟨by rfl, rfl⟩) (by assumption) ?_
        try simp only [Act.put, List.setIfInBounds_toArray, List.set_cons_zero, List.set_cons_succ]
        refine wpAnyH_take (i := 12) (oi := { dst := some 79, op := Go.Op.binOp Go.BinOp.geq 56 (Go.Operand.tmp 74) (Go.Operand.tmp 78) 56, type := 4, pos := "outright.go:50", after := #[{ on := 7, ground := Go.Ground.data }, { on := 11, ground := Go.Ground.data }, { on := 2, ground := Go.Ground.guard }], guard := some (2, true) }) (v := undef) rfl (by kernel_rfl) (by kernel_rfl) (by kernel_rfl) (fun _ _ _ h => h) (Or.inr ⟨by rfl, rfl⟩) (by assumption) ?_
        try simp only [Act.put, List.setIfInBounds_toArray, List.set_cons_zero, List.set_cons_succ]
        refine wpAnyH_take (i := 13) (oi := { dst := some 80, op := Go.Op.pick (Go.Operand.tmp 69) (Go.Operand.tmp 79) (Go.Operand.const (Go.Value.bool false)), type := 4, pos := "outright.go:50", after := #[{ on := 2, ground := Go.Ground.data }, { on := 12, ground := Go.Ground.data }], guard := none }) (v := ?_) rfl (by kernel_rfl) (by kernel_rfl) (by kernel_rfl) (fun _ _ _ h => h) (Or.inl ⟨by rfl, ?_⟩) (by assumption) ?_
        rotate_left
        · (intro w hSw; (try dsimp only at hSw); (go_simp <;> with_reducible rfl))
        try simp only [Act.put, List.setIfInBounds_toArray, List.set_cons_zero, List.set_cons_succ]
        refine wpAnyH_take (i := 14) (oi := { dst := some 81, op := Go.Op.move (Go.Operand.tmp 80), type := 4, pos := "outright.go:50", after := #[{ on := 13, ground := Go.Ground.data }, { on := 2, ground := Go.Ground.chain }], guard := none }) (v := ?_) rfl (by kernel_rfl) (by kernel_rfl) (by kernel_rfl) (fun _ _ _ h => h) (Or.inl ⟨by rfl, ?_⟩) (by assumption) ?_
        rotate_left
        · (intro w hSw; (try dsimp only at hSw); (go_simp <;> with_reducible rfl))
        try simp only [Act.put, List.setIfInBounds_toArray, List.set_cons_zero, List.set_cons_succ]
        refine wpAnyH_take (i := 15) (oi := { dst := some 82, op := Go.Op.move (Go.Operand.tmp 16), type := 4, pos := "outright.go:50", after := #[{ on := 14, ground := Go.Ground.guard }], guard := some (14, false) }) (v := ?_) rfl (by kernel_rfl) (by kernel_rfl) (by kernel_rfl) (fun _ _ _ h => h) (Or.inl ⟨by rfl, ?_⟩) (by assumption) ?_
        rotate_left
        · (intro w hSw; (try dsimp only at hSw); (go_simp <;> with_reducible rfl))
        try simp only [Act.put, List.setIfInBounds_toArray, List.set_cons_zero, List.set_cons_succ]
        refine wpAnyH_take (i := 16) (oi := { dst := some 83, op := Go.Op.unOp Go.UnOp.not 4 (Go.Operand.tmp 82), type := 4, pos := "outright.go:50", after := #[{ on := 15, ground := Go.Ground.data }, { on := 14, ground := Go.Ground.guard }], guard := some (14, false) }) (v := ?_) rfl (by kernel_rfl) (by kernel_rfl) (by kernel_rfl) (fun _ _ _ h => h) (Or.inl ⟨by rfl, ?_⟩) (by assumption) ?_
        rotate_left
        · (intro w hSw; (try dsimp only at hSw); (go_simp <;> with_reducible rfl))
        try simp only [Act.put, List.setIfInBounds_toArray, List.set_cons_zero, List.set_cons_succ]
        refine wpAnyH_take (i := 17) (oi := { dst := some 84, op := Go.Op.pick (Go.Operand.tmp 81) (Go.Operand.const (Go.Value.bool true)) (Go.Operand.tmp 83), type := 4, pos := "outright.go:50", after := #[{ on := 14, ground := Go.Ground.data }, { on := 16, ground := Go.Ground.data }], guard := none }) (v := ?_) rfl (by kernel_rfl) (by kernel_rfl) (by kernel_rfl) (fun _ _ _ h => h) (Or.inl ⟨by rfl, ?_⟩) (by assumption) ?_
        rotate_left
        · (intro w hSw; (try dsimp only at hSw); (go_simp <;> with_reducible rfl))
        try simp only [Act.put, List.setIfInBounds_toArray, List.set_cons_zero, List.set_cons_succ]
        refine wpAnyH_take (i := 18) (oi := { dst := some 85, op := Go.Op.move (Go.Operand.tmp 84), type := 4, pos := "outright.go:50", after := #[{ on := 17, ground := Go.Ground.data }, { on := 14, ground := Go.Ground.chain }], guard := none }) (v := ?_) rfl (by kernel_rfl) (by kernel_rfl) (by kernel_rfl) (fun _ _ _ h => h) (Or.inl ⟨by rfl, ?_⟩) (by assumption) ?_
        rotate_left
        · (intro w hSw; (try dsimp only at hSw); (go_simp <;> with_reducible rfl))
        try simp only [Act.put, List.setIfInBounds_toArray, List.set_cons_zero, List.set_cons_succ]
        refine wpAnyH_take (i := 19) (oi := { dst := some 86, op := Go.Op.move (Go.Operand.tmp 15), type := 3, pos := "outright.go:50", after := #[{ on := 18, ground := Go.Ground.guard }], guard := some (18, false) }) (v := ?_) rfl (by kernel_rfl) (by kernel_rfl) (by kernel_rfl) (fun _ _ _ h => h) (Or.inl ⟨by rfl, ?_⟩) (by assumption) ?_
        rotate_left
        · (intro w hSw; (try dsimp only at hSw); (go_simp <;> with_reducible rfl))
        try simp only [Act.put, List.setIfInBounds_toArray, List.set_cons_zero, List.set_cons_succ]
        refine wpAnyH_take (i := 20) (oi := { dst := some 87, op := Go.Op.move (Go.Operand.tmp 12), type := 31, pos := "outright.go:50", after := #[{ on := 18, ground := Go.Ground.guard }], guard := some (18, false) }) (v := ?_) rfl (by kernel_rfl) (by kernel_rfl) (by kernel_rfl) (fun _ _ _ h => h) (Or.inl ⟨by rfl, ?_⟩) (by assumption) ?_
        rotate_left
        · (intro w hSw; (try dsimp only at hSw); (go_simp <;> with_reducible rfl))
        try simp only [Act.put, List.setIfInBounds_toArray, List.set_cons_zero, List.set_cons_succ]
        refine wpAnyH_take (i := 21) (oi := { dst := some 88, op := Go.Op.move (Go.Operand.tmp 14), type := 3, pos := "outright.go:50", after := #[{ on := 18, ground := Go.Ground.guard }], guard := some (18, false) }) (v := ?_) rfl (by kernel_rfl) (by kernel_rfl) (by kernel_rfl) (fun _ _ _ h => h) (Or.inl ⟨by rfl, ?_⟩) (by assumption) ?_
        rotate_left
        · (intro w hSw; (try dsimp only at hSw); (go_simp <;> with_reducible rfl))
        try simp only [Act.put, List.setIfInBounds_toArray, List.set_cons_zero, List.set_cons_succ]
        refine wpAnyH_take (i := 22) (oi := { dst := some 89, op := Go.Op.indexAddr 31 (Go.Operand.tmp 87) (Go.Operand.tmp 88), type := 0, pos := "outright.go:50", after := #[{ on := 20, ground := Go.Ground.data }, { on := 21, ground := Go.Ground.data }, { on := 18, ground := Go.Ground.guard }], guard := some (18, false) }) (v := ?_) rfl (by kernel_rfl) (by kernel_rfl) (by kernel_rfl) (fun _ _ _ h => h) (Or.inl ⟨by rfl, ?_⟩) (by assumption) ?_
        rotate_left
        · (intro w hSw; (try dsimp only at hSw); (go_simp <;> with_reducible rfl))
        try simp only [Act.put, List.setIfInBounds_toArray, List.set_cons_zero, List.set_cons_succ]
        refine wpAnyH_take (i := 23) (oi := { dst := some 90, op := Go.Op.load 3 (Go.Operand.tmp 89), type := 3, pos := "outright.go:50", after := #[{ on := 22, ground := Go.Ground.data }, { on := 18, ground := Go.Ground.guard }], guard := some (18, false) }) (v := ?_) rfl (by kernel_rfl) (by kernel_rfl) (by kernel_rfl) (fun _ _ _ h => h) (Or.inl ⟨by rfl, ?_⟩) (by assumption) ?_
        rotate_left
        · (intro w hSw; (try dsimp only at hSw); (go_simp <;> with_reducible rfl))
        try simp only [Act.put, List.setIfInBounds_toArray, List.set_cons_zero, List.set_cons_succ]
        refine wpAnyH_take (i := 24) (oi := { dst := some 91, op := Go.Op.binOp Go.BinOp.neq 3 (Go.Operand.tmp 86) (Go.Operand.tmp 90) 3, type := 4, pos := "outright.go:50", after := #[{ on := 19, ground := Go.Ground.data }, { on := 23, ground := Go.Ground.data }, { on := 18, ground := Go.Ground.guard }], guard := some (18, false) }) (v := ?_) rfl (by kernel_rfl) (by kernel_rfl) (by kernel_rfl) (fun _ _ _ h => h) (Or.inl ⟨by rfl, ?_⟩) (by assumption) ?_
        rotate_left
        · (intro w hSw; (try dsimp only at hSw); (go_simp <;> with_reducible rfl))
        try simp only [Act.put, List.setIfInBounds_toArray, List.set_cons_zero, List.set_cons_succ]
        refine wpAnyH_take (i := 25) (oi := { dst := some 92, op := Go.Op.pick (Go.Operand.tmp 85) (Go.Operand.const (Go.Value.bool true)) (Go.Operand.tmp 91), type := 4, pos := "outright.go:50", after := #[{ on := 18, ground := Go.Ground.data }, { on := 24, ground := Go.Ground.data }], guard := none }) (v := ?_) rfl (by kernel_rfl) (by kernel_rfl) (by kernel_rfl) (fun _ _ _ h => h) (Or.inl ⟨by rfl, ?_⟩) (by assumption) ?_
        rotate_left
        · (intro w hSw; (try dsimp only at hSw); (go_simp <;> with_reducible rfl))
        try simp only [Act.put, List.setIfInBounds_toArray, List.set_cons_zero, List.set_cons_succ]
        refine wpAnyH_take (i := 26) (oi := { dst := some 93, op := Go.Op.move (Go.Operand.tmp 92), type := 4, pos := "outright.go:50", after := #[{ on := 25, ground := Go.Ground.data }, { on := 18, ground := Go.Ground.chain }], guard := none }) (v := ?_) rfl (by kernel_rfl) (by kernel_rfl) (by kernel_rfl) (fun _ _ _ h => h) (Or.inl ⟨by rfl, ?_⟩) (by assumption) ?_
        rotate_left
        · (intro w hSw; (try dsimp only at hSw); (go_simp <;> with_reducible rfl))
        try simp only [Act.put, List.setIfInBounds_toArray, List.set_cons_zero, List.set_cons_succ]
        refine wpAnyH_take (i := 27) (oi := { dst := some 94, op := Go.Op.move (Go.Operand.tmp 9), type := 22, pos := "outright.go:50", after := #[{ on := 26, ground := Go.Ground.guard }], guard := some (26, false) }) (v := ?_) rfl (by kernel_rfl) (by kernel_rfl) (by kernel_rfl) (fun _ _ _ h => h) (Or.inl ⟨by rfl, ?_⟩) (by assumption) ?_
        rotate_left
        · (intro w hSw; (try dsimp only at hSw); (go_simp <;> with_reducible rfl))
        try simp only [Act.put, List.setIfInBounds_toArray, List.set_cons_zero, List.set_cons_succ]
        refine wpAnyH_take (i := 28) (oi := { dst := some 95, op := Go.Op.move (Go.Operand.tmp 11), type := 30, pos := "outright.go:50", after := #[{ on := 26, ground := Go.Ground.guard }], guard := some (26, false) }) (v := ?_) rfl (by kernel_rfl) (by kernel_rfl) (by kernel_rfl) (fun _ _ _ h => h) (Or.inl ⟨by rfl, ?_⟩) (by assumption) ?_
        rotate_left
        · (intro w hSw; (try dsimp only at hSw); (go_simp <;> with_reducible rfl))
        try simp only [Act.put, List.setIfInBounds_toArray, List.set_cons_zero, List.set_cons_succ]
        refine wpAnyH_take (i := 29) (oi := { dst := some 96, op := Go.Op.move (Go.Operand.tmp 14), type := 3, pos := "outright.go:50", after := #[{ on := 26, ground := Go.Ground.guard }], guard := some (26, false) }) (v := ?_) rfl (by kernel_rfl) (by kernel_rfl) (by kernel_rfl) (fun _ _ _ h => h) (Or.inl ⟨by rfl, ?_⟩) (by assumption) ?_
        rotate_left
        · (intro w hSw; (try dsimp only at hSw); (go_simp <;> with_reducible rfl))
        try simp only [Act.put, List.setIfInBounds_toArray, List.set_cons_zero, List.set_cons_succ]
        refine wpAnyH_take (i := 30) (oi := { dst := some 97, op := Go.Op.indexAddr 30 (Go.Operand.tmp 95) (Go.Operand.tmp 96), type := 0, pos := "outright.go:50", after := #[{ on := 28, ground := Go.Ground.data }, { on := 29, ground := Go.Ground.data }, { on := 26, ground := Go.Ground.guard }], guard := some (26, false) }) (v := ?_) rfl (by kernel_rfl) (by kernel_rfl) (by kernel_rfl) (fun _ _ _ h => h) (Or.inl ⟨by rfl, ?_⟩) (by assumption) ?_
        rotate_left
        · (intro w hSw; (try dsimp only at hSw); (go_simp <;> with_reducible rfl))
        try simp only [Act.put, List.setIfInBounds_toArray, List.set_cons_zero, List.set_cons_succ]
        refine wpAnyH_take (i := 31) (oi := { dst := some 98, op := Go.Op.load 56 (Go.Operand.tmp 97), type := 56, pos := "outright.go:50", after := #[{ on := 30, ground := Go.Ground.data }, { on := 26, ground := Go.Ground.guard }], guard := some (26, false) }) (v := ?_) rfl (by kernel_rfl) (by kernel_rfl) (by kernel_rfl) (fun _ _ _ h => h) (Or.inl ⟨by rfl, ?_⟩) (by assumption) ?_
        rotate_left
        · (intro w hSw; (try dsimp only at hSw); (go_simp <;> with_reducible rfl))
        try simp only [Act.put, List.setIfInBounds_toArray, List.set_cons_zero, List.set_cons_succ]
        refine wpAnyH_take (i := 32) (oi := { dst := some 99, op := Go.Op.convert 56 29 (Go.Operand.tmp 98), type := 29, pos := "outright.go:50", after := #[{ on := 31, ground := Go.Ground.data }, { on := 26, ground := Go.Ground.guard }], guard := some (26, false) }) (v := ?_) rfl (by kernel_rfl) (by kernel_rfl) (by kernel_rfl) (fun _ _ _ h => h) (Or.inl ⟨by rfl, ?_⟩) (by assumption) ?_
        rotate_left
        · (intro w hSw; (try dsimp only at hSw); (go_simp <;> with_reducible rfl))
        try simp only [Act.put, List.setIfInBounds_toArray, List.set_cons_zero, List.set_cons_succ]
        refine wpAnyH_take (i := 33) (oi := { dst := some 100, op := Go.Op.move (Go.Operand.tmp 15), type := 3, pos := "outright.go:50", after := #[{ on := 26, ground := Go.Ground.guard }], guard := some (26, false) }) (v := ?_) rfl (by kernel_rfl) (by kernel_rfl) (by kernel_rfl) (fun _ _ _ h => h) (Or.inl ⟨by rfl, ?_⟩) (by assumption) ?_
        rotate_left
        · (intro w hSw; (try dsimp only at hSw); (go_simp <;> with_reducible rfl))
        try simp only [Act.put, List.setIfInBounds_toArray, List.set_cons_zero, List.set_cons_succ]
        refine wpAnyH_take (i := 34) (oi := { dst := some 101, op := Go.Op.binOp Go.BinOp.add 3 (Go.Operand.tmp 100) (Go.Operand.const (Go.Value.int Go.IntKind.i64 1)) 3, type := 3, pos := "outright.go:50", after := #[{ on := 33, ground := Go.Ground.data }, { on := 26, ground := Go.Ground.guard }], guard := some (26, false) }) (v := ?_) rfl (by kernel_rfl) (by kernel_rfl) (by kernel_rfl) (fun _ _ _ h => h) (Or.inl ⟨by rfl, ?_⟩) (by assumption) ?_
        rotate_left
        · (intro w hSw; (try dsimp only at hSw); (go_simp <;> with_reducible rfl))
        try simp only [Act.put, List.setIfInBounds_toArray, List.set_cons_zero, List.set_cons_succ]
        refine wpAnyH_ready (rs := [35]) (by kernel_rfl) (by simp) ?_
        refine AllReadyH.cons (o := { dst := some 102, op := Go.Op.call { callee := Go.Callee.value (Go.Operand.func 10), args := #[Go.Operand.tmp 94, Go.Operand.tmp 99, Go.Operand.tmp 101], argTypes := #[22, 29, 3] }, type := 34, pos := "outright.go:50", after := #[{ on := 27, ground := Go.Ground.data }, { on := 32, ground := Go.Ground.data }, { on := 34, ground := Go.Ground.data }, { on := 26, ground := Go.Ground.chain }, { on := 26, ground := Go.Ground.guard }], guard := some (26, false) }) rfl (fun K hK => ?_) ?_
        rotate_left
        · exact AllReadyH.nil
        go_simp
        refine (HPut.out _ (grown_drew _ _)).mono ?_
        rintro r wB ⟨rfl, hIB, hkB⟩
        go_wp2_with fail
        refine hK.out _ _ ?_ (fun hHeld => ?_)
        · ((try dsimp only); exact ⟨HX.out hkB hgi z1, HX.out hkB hgv z2⟩)
        clear hK K
        try simp only [Act.put, List.setIfInBounds_toArray, List.set_cons_zero, List.set_cons_succ]
        refine wpAnyH_take (i := 36) (oi := { dst := some 103, op := Go.Op.binOp Go.BinOp.neq 34 (Go.Operand.tmp 102) (Go.Operand.const (Go.Value.int Go.IntKind.i64 7)) 34, type := 4, pos := "outright.go:50", after := #[{ on := 35, ground := Go.Ground.data }, { on := 26, ground := Go.Ground.guard }], guard := some (26, false) }) (v := ?_) rfl (by kernel_rfl) (by kernel_rfl) (by kernel_rfl) (fun _ _ _ h => h) (Or.inl ⟨by rfl, ?_⟩) (by assumption) ?_
        rotate_left
        · (intro w hSw; (try dsimp only at hSw); (go_simp <;> with_reducible rfl))
        try simp only [Act.put, List.setIfInBounds_toArray, List.set_cons_zero, List.set_cons_succ]
        refine wpAnyH_take (i := 37) (oi := { dst := some 104, op := Go.Op.pick (Go.Operand.tmp 93) (Go.Operand.const (Go.Value.bool true)) (Go.Operand.tmp 103), type := 4, pos := "outright.go:50", after := #[{ on := 26, ground := Go.Ground.data }, { on := 36, ground := Go.Ground.data }], guard := none }) (v := ?_) rfl (by kernel_rfl) (by kernel_rfl) (by kernel_rfl) (fun _ _ _ h => h) (Or.inl ⟨by rfl, ?_⟩) (by assumption) ?_
        rotate_left
        · (intro w hSw; (try dsimp only at hSw); (go_simp <;> with_reducible rfl))
        try simp only [Act.put, List.setIfInBounds_toArray, List.set_cons_zero, List.set_cons_succ]
        refine wpAnyH_done (by kernel_rfl) ?_ _
        have H5 := hide (And.intro hIB (H4.out.2.trans ((Kept.new (grown_drew w4 none) p.own).trans hkB (fun _ _ e => e)) (fun _ _ e => e)))
        have z3 : wB.cell? ⟨gi, i, none⟩ = some (.int .u64 (yk : Int)) := HX.out hkB hgi z1
        clear hIB hkB hHeld HPut z1 z2
        have hwr : IntKind.i64.wrap ((i : Int) + 1) = (i : Int) + 1 := by rw [IntKind.wrap_i64]; omega
        have HRel : Hid (∀ b : Bool, b = (hr M i id || (yk == id)) → ∃ i' : Nat, (Value.int .i64 ((i : Int) + 1) : Value) = .int .i64 (i' : Int) ∧ (Value.bool b : Value) = .bool (hr M i' id) ∧ Hid (gk - 1 = L - i' ∧ i' ≤ L ∧ (∃ lo, Io wB p M lo) ∧ wB.ownsRow w2.heap.size 56 1 (.slice (some ⟨gi, 0, none⟩) L ca) L (idV M) ∧ wB.ownsRow w2.heap.size 3 1 (.slice (some ⟨gv, 0, none⟩) L cb) L (vlV M) ∧ w.grownBy wB none)) := by
          rintro b rfl
          refine ⟨i + 1, by simp, by rw [HN.out, ← HY.out.1], by have := HR.out.1; omega, by omega, ⟨_, H5.out.1⟩, row_keep HR.out.2.2.2.1 (fun k hk => ?_), row_keep HR.out.2.2.2.2.1 (fun k hk => ?_), ?_⟩
          · obtain ⟨h1, cur, hc⟩ := own_block HR.out.2.2.2.1 hk
            exact H5.out.2.block k (row_lt hc) (fun e => by have := H2.out.1.lt _ e; omega)
          · obtain ⟨h1, cur, hc⟩ := own_block HR.out.2.2.2.2.1 hk
            exact H5.out.2.block k (row_lt hc) (fun e => by have := H2.out.1.lt _ e; omega)
          · exact Kept.grown ((Kept.new HR.out.2.2.2.2.2 (fun i => w.heap.size ≤ i)).trans H5.out.2 (fun i _ e => H2.out.2.2 i e)) (fun i hi e => by omega)
        have hgk : gk - 1 < gk := by have := HR.out.1; omega
        generalize hr M i id = hb at *
        cases hb with
        | true =>
          go_wp2
          go_roundg (gk - 1)
          case rel => exact HRel.out true (by simp)
          case measure => exact hgk
        | false =>
          by_cases hyid : yk = id
          · have HYI := hide hyid
            have w1 : ((yk : Int) == (id : Int)) = true := by simp; omega
            have w2' : decide ((yk : Int) = (id : Int)) = true := by simp; omega
            clear hyid
            go_wp2
            go_roundg (gk - 1)
            case rel => exact HRel.out true (by rw [HYI.out]; simp)
            case measure => exact hgk
          · have HYI := hide hyid
            have w1 : ((yk : Int) == (id : Int)) = false := by simp; omega
            have w2' : decide ((yk : Int) = (id : Int)) = false := by simp; omega
            clear hyid
            go_wp2
            go_roundg (gk - 1)
            case rel => exact HRel.out false (by simpa using HYI.out)
            case measure => exact hgk
      · obtain ⟨ip, hip⟩ : ∃ ip, ip + 1 = i := ⟨i - 1, by omega⟩
        have hz1 : decide ((0 : Int) < (i : Int)) = true := by simp; omega
        have hz3 : decide (0 < i) = true := by simp; omega
        have z0 : w4.cell? ⟨gi, ip, none⟩ = some (.int .u64 ((en M ip).1 : Int)) := by
          obtain ⟨gi', ci', cui', e1, -, hgi2, -, -, -, hti⟩ := own_row HR.out.2.2.2.1 (by omega)
          cases e1
          exact HX.out H4.out.2 hgi (own_cell hgi2 hti (idV_get (by have := HE.out.2.2; omega)))
        have hpl : (en M ip).1 < yk := by
          rw [HY.out.1]
          exact asc_en H2.out.1.asc (by omega) HE.out.2.2
        obtain ⟨yp, hyp⟩ : ∃ yp, yp = (en M ip).1 := ⟨_, rfl⟩
        rw [← hyp] at z0 hpl
        have hge : decide ((yk : Int) ≤ (yp : Int)) = false := by simp; omega
        have hge3 : decide (yk ≤ yp) = false := by simp; omega
        have hge2 : ¬ ((yk : Int) ≤ (yp : Int)) := by omega
        have hsub : IntKind.i64.wrap ((i : Int) - 1) = (ip : Int) := by rw [IntKind.wrap_i64]; omega
        have hsub2 : (i : Int) - 1 = (ip : Int) := by omega
        have hwip : IntKind.i64.wrap (ip : Int) = (ip : Int) := by rw [IntKind.wrap_i64]; omega
        have hipL : (ip : Int) < (L : Int) := by omega
        have hipL2 : ip < L := by omega
        have HZ := hide (And.intro hip (And.intro hyp hpl))
        clear hz hip hyp hpl
        go_wp2
        refine wp_region_held_drew (S := (fun w' => w'.cell? ⟨gi, ip, none⟩ = some (.int .u64 (yp : Int)) ∧ w'.cell? ⟨gi, i, none⟩ = some (.int .u64 (yk : Int)) ∧ w'.cell? ⟨gv, i, none⟩ = some (.int .i64 yv))) (by kernel_rfl) ?_ (fun hHeld => ?_)
        · (exact ⟨z0, z1, z2⟩)
        refine wpAnyH_take (i := 0) (oi := { dst := some 67, op := Go.Op.move (Go.Operand.tmp 14), type := 3, pos := "outright.go:50", after := #[], guard := none }) (v := ?_) rfl (by kernel_rfl) (by kernel_rfl) (by kernel_rfl) (fun _ _ _ h => h) (Or.inl ⟨by rfl, ?_⟩) (by assumption) ?_
        rotate_left
        · (intro w hSw; (try dsimp only at hSw); (go_simp <;> with_reducible rfl))
        try simp only [Act.put, List.setIfInBounds_toArray, List.set_cons_zero, List.set_cons_succ]
        refine wpAnyH_take (i := 1) (oi := { dst := some 68, op := Go.Op.binOp Go.BinOp.gtr 3 (Go.Operand.tmp 67) (Go.Operand.const (Go.Value.int Go.IntKind.i64 0)) 3, type := 4, pos := "outright.go:50", after := #[{ on := 0, ground := Go.Ground.data }], guard := none }) (v := ?_) rfl (by kernel_rfl) (by kernel_rfl) (by kernel_rfl) (fun _ _ _ h => h) (Or.inl ⟨by rfl, ?_⟩) (by assumption) ?_
        rotate_left
        · (intro w hSw; (try dsimp only at hSw); (go_simp <;> with_reducible rfl))
        try simp only [Act.put, List.setIfInBounds_toArray, List.set_cons_zero, List.set_cons_succ]
        refine wpAnyH_take (i := 2) (oi := { dst := some 69, op := Go.Op.move (Go.Operand.tmp 68), type := 4, pos := "outright.go:50", after := #[{ on := 1, ground := Go.Ground.data }], guard := none }) (v := ?_) rfl (by kernel_rfl) (by kernel_rfl) (by kernel_rfl) (fun _ _ _ h => h) (Or.inl ⟨by rfl, ?_⟩) (by assumption) ?_
        rotate_left
        · (intro w hSw; (try dsimp only at hSw); (go_simp <;> with_reducible rfl))
        try simp only [Act.put, List.setIfInBounds_toArray, List.set_cons_zero, List.set_cons_succ]
        refine wpAnyH_take (i := 3) (oi := { dst := some 70, op := Go.Op.move (Go.Operand.tmp 11), type := 30, pos := "outright.go:50", after := #[{ on := 2, ground := Go.Ground.guard }], guard := some (2, true) }) (v := ?_) rfl (by kernel_rfl) (by kernel_rfl) (by kernel_rfl) (fun _ _ _ h => h) (Or.inl ⟨by rfl, ?_⟩) (by assumption) ?_
        rotate_left
        · (intro w hSw; (try dsimp only at hSw); (go_simp <;> with_reducible rfl))
        try simp only [Act.put, List.setIfInBounds_toArray, List.set_cons_zero, List.set_cons_succ]
        refine wpAnyH_take (i := 4) (oi := { dst := some 71, op := Go.Op.move (Go.Operand.tmp 14), type := 3, pos := "outright.go:50", after := #[{ on := 2, ground := Go.Ground.guard }], guard := some (2, true) }) (v := ?_) rfl (by kernel_rfl) (by kernel_rfl) (by kernel_rfl) (fun _ _ _ h => h) (Or.inl ⟨by rfl, ?_⟩) (by assumption) ?_
        rotate_left
        · (intro w hSw; (try dsimp only at hSw); (go_simp <;> with_reducible rfl))
        try simp only [Act.put, List.setIfInBounds_toArray, List.set_cons_zero, List.set_cons_succ]
        refine wpAnyH_take (i := 5) (oi := { dst := some 72, op := Go.Op.binOp Go.BinOp.sub 3 (Go.Operand.tmp 71) (Go.Operand.const (Go.Value.int Go.IntKind.i64 1)) 3, type := 3, pos := "outright.go:50", after := #[{ on := 4, ground := Go.Ground.data }, { on := 2, ground := Go.Ground.guard }], guard := some (2, true) }) (v := ?_) rfl (by kernel_rfl) (by kernel_rfl) (by kernel_rfl) (fun _ _ _ h => h) (Or.inl ⟨by rfl, ?_⟩) (by assumption) ?_
        rotate_left
        · (intro w hSw; (try dsimp only at hSw); (go_simp <;> with_reducible rfl))
        try simp only [Act.put, List.setIfInBounds_toArray, List.set_cons_zero, List.set_cons_succ]
        refine wpAnyH_take (i := 6) (oi := { dst := some 73, op := Go.Op.indexAddr 30 (Go.Operand.tmp 70) (Go.Operand.tmp 72), type := 0, pos := "outright.go:50", after := #[{ on := 3, ground := Go.Ground.data }, { on := 5, ground := Go.Ground.data }, { on := 2, ground := Go.Ground.guard }], guard := some (2, true) }) (v := ?_) rfl (by kernel_rfl) (by kernel_rfl) (by kernel_rfl) (fun _ _ _ h => h) (Or.inl ⟨by rfl, ?_⟩) (by assumption) ?_
        rotate_left
        · (intro w hSw; (try dsimp only at hSw); (go_simp <;> with_reducible rfl))
        try simp only [Act.put, List.setIfInBounds_toArray, List.set_cons_zero, List.set_cons_succ]
        refine wpAnyH_take (i := 7) (oi := { dst := some 74, op := Go.Op.load 56 (Go.Operand.tmp 73), type := 56, pos := "outright.go:50", after := #[{ on := 6, ground := Go.Ground.data }, { on := 2, ground := Go.Ground.guard }], guard := some (2, true) }) (v := ?_) rfl (by kernel_rfl) (by kernel_rfl) (by kernel_rfl) (fun _ _ _ h => h) (Or.inl ⟨by rfl, ?_⟩) (by assumption) ?_
        rotate_left
        · (intro w hSw; (try dsimp only at hSw); (go_simp <;> with_reducible rfl))
        try simp only [Act.put, List.setIfInBounds_toArray, List.set_cons_zero, List.set_cons_succ]
        refine wpAnyH_take (i := 8) (oi := { dst := some 75, op := Go.Op.move (Go.Operand.tmp 11), type := 30, pos := "outright.go:50", after := #[{ on := 2, ground := Go.Ground.guard }], guard := some (2, true) }) (v := ?_) rfl (by kernel_rfl) (by kernel_rfl) (by kernel_rfl) (fun _ _ _ h => h) (Or.inl ⟨by rfl, ?_⟩) (by assumption) ?_
        rotate_left
        · (intro w hSw; (try dsimp only at hSw); (go_simp <;> with_reducible rfl))
        try simp only [Act.put, List.setIfInBounds_toArray, List.set_cons_zero, List.set_cons_succ]
        refine wpAnyH_take (i := 9) (oi := { dst := some 76, op := Go.Op.move (Go.Operand.tmp 14), type := 3, pos := "outright.go:50", after := #[{ on := 2, ground := Go.Ground.guard }], guard := some (2, true) }) (v := ?_) rfl (by kernel_rfl) (by kernel_rfl) (by kernel_rfl) (fun _ _ _ h => h) (Or.inl ⟨by rfl, ?_⟩) (by assumption) ?_
        rotate_left
        · (intro w hSw; (try dsimp only at hSw); (go_simp <;> with_reducible rfl))
        try simp only [Act.put, List.setIfInBounds_toArray, List.set_cons_zero, List.set_cons_succ]
        refine wpAnyH_take (i := 10) (oi := { dst := some 77, op := Go.Op.indexAddr 30 (Go.Operand.tmp 75) (Go.Operand.tmp 76), type := 0, pos := "outright.go:50", after := #[{ on := 8, ground := Go.Ground.data }, { on := 9, ground := Go.Ground.data }, { on := 2, ground := Go.Ground.guard }], guard := some (2, true) }) (v := ?_) rfl (by kernel_rfl) (by kernel_rfl) (by kernel_rfl) (fun _ _ _ h => h) (Or.inl ⟨by rfl, ?_⟩) (by assumption) ?_
        rotate_left
        · (intro w hSw; (try dsimp only at hSw); (go_simp <;> with_reducible rfl))
        try simp only [Act.put, List.setIfInBounds_toArray, List.set_cons_zero, List.set_cons_succ]
        refine wpAnyH_take (i := 11) (oi := { dst := some 78, op := Go.Op.load 56 (Go.Operand.tmp 77), type := 56, pos := "outright.go:50", after := #[{ on := 10, ground := Go.Ground.data }, { on := 2, ground := Go.Ground.guard }], guard := some (2, true) }) (v := ?_) rfl (by kernel_rfl) (by kernel_rfl) (by kernel_rfl) (fun _ _ _ h => h) (Or.inl ⟨by rfl, ?_⟩) (by assumption) ?_
        rotate_left
        · (intro w hSw; (try dsimp only at hSw); (go_simp <;> with_reducible rfl))
        try simp only [Act.put, List.setIfInBounds_toArray, List.set_cons_zero, List.set_cons_succ]
        refine wpAnyH_take (i := 12) (oi := { dst := some 79, op := Go.Op.binOp Go.BinOp.geq 56 (Go.Operand.tmp 74) (Go.Operand.tmp 78) 56, type := 4, pos := "outright.go:50", after := #[{ on := 7, ground := Go.Ground.data }, { on := 11, ground := Go.Ground.data }, { on := 2, ground := Go.Ground.guard }], guard := some (2, true) }) (v := ?_) rfl (by kernel_rfl) (by kernel_rfl) (by kernel_rfl) (fun _ _ _ h => h) (Or.inl ⟨by rfl, ?_⟩) (by assumption) ?_
        rotate_left
        · (intro w hSw; (try dsimp only at hSw); (go_simp <;> with_reducible rfl))
        try simp only [Act.put, List.setIfInBounds_toArray, List.set_cons_zero, List.set_cons_succ]
        refine wpAnyH_take (i := 13) (oi := { dst := some 80, op := Go.Op.pick (Go.Operand.tmp 69) (Go.Operand.tmp 79) (Go.Operand.const (Go.Value.bool false)), type := 4, pos := "outright.go:50", after := #[{ on := 2, ground := Go.Ground.data }, { on := 12, ground := Go.Ground.data }], guard := none }) (v := ?_) rfl (by kernel_rfl) (by kernel_rfl) (by kernel_rfl) (fun _ _ _ h => h) (Or.inl ⟨by rfl, ?_⟩) (by assumption) ?_
        rotate_left
        · (intro w hSw; (try dsimp only at hSw); (go_simp <;> with_reducible rfl))
        try simp only [Act.put, List.setIfInBounds_toArray, List.set_cons_zero, List.set_cons_succ]
        refine wpAnyH_take (i := 14) (oi := { dst := some 81, op := Go.Op.move (Go.Operand.tmp 80), type := 4, pos := "outright.go:50", after := #[{ on := 13, ground := Go.Ground.data }, { on := 2, ground := Go.Ground.chain }], guard := none }) (v := ?_) rfl (by kernel_rfl) (by kernel_rfl) (by kernel_rfl) (fun _ _ _ h => h) (Or.inl ⟨by rfl, ?_⟩) (by assumption) ?_
        rotate_left
        · (intro w hSw; (try dsimp only at hSw); (go_simp <;> with_reducible rfl))
        try simp only [Act.put, List.setIfInBounds_toArray, List.set_cons_zero, List.set_cons_succ]
        refine wpAnyH_take (i := 15) (oi := { dst := some 82, op := Go.Op.move (Go.Operand.tmp 16), type := 4, pos := "outright.go:50", after := #[{ on := 14, ground := Go.Ground.guard }], guard := some (14, false) }) (v := ?_) rfl (by kernel_rfl) (by kernel_rfl) (by kernel_rfl) (fun _ _ _ h => h) (Or.inl ⟨by rfl, ?_⟩) (by assumption) ?_
        rotate_left
        · (intro w hSw; (try dsimp only at hSw); (go_simp <;> with_reducible rfl))
        try simp only [Act.put, List.setIfInBounds_toArray, List.set_cons_zero, List.set_cons_succ]
        refine wpAnyH_take (i := 16) (oi := { dst := some 83, op := Go.Op.unOp Go.UnOp.not 4 (Go.Operand.tmp 82), type := 4, pos := "outright.go:50", after := #[{ on := 15, ground := Go.Ground.data }, { on := 14, ground := Go.Ground.guard }], guard := some (14, false) }) (v := ?_) rfl (by kernel_rfl) (by kernel_rfl) (by kernel_rfl) (fun _ _ _ h => h) (Or.inl ⟨by rfl, ?_⟩) (by assumption) ?_
        rotate_left
        · (intro w hSw; (try dsimp only at hSw); (go_simp <;> with_reducible rfl))
        try simp only [Act.put, List.setIfInBounds_toArray, List.set_cons_zero, List.set_cons_succ]
        refine wpAnyH_take (i := 17) (oi := { dst := some 84, op := Go.Op.pick (Go.Operand.tmp 81) (Go.Operand.const (Go.Value.bool true)) (Go.Operand.tmp 83), type := 4, pos := "outright.go:50", after := #[{ on := 14, ground := Go.Ground.data }, { on := 16, ground := Go.Ground.data }], guard := none }) (v := ?_) rfl (by kernel_rfl) (by kernel_rfl) (by kernel_rfl) (fun _ _ _ h => h) (Or.inl ⟨by rfl, ?_⟩) (by assumption) ?_
        rotate_left
        · (intro w hSw; (try dsimp only at hSw); (go_simp <;> with_reducible rfl))
        try simp only [Act.put, List.setIfInBounds_toArray, List.set_cons_zero, List.set_cons_succ]
        refine wpAnyH_take (i := 18) (oi := { dst := some 85, op := Go.Op.move (Go.Operand.tmp 84), type := 4, pos := "outright.go:50", after := #[{ on := 17, ground := Go.Ground.data }, { on := 14, ground := Go.Ground.chain }], guard := none }) (v := ?_) rfl (by kernel_rfl) (by kernel_rfl) (by kernel_rfl) (fun _ _ _ h => h) (Or.inl ⟨by rfl, ?_⟩) (by assumption) ?_
        rotate_left
        · (intro w hSw; (try dsimp only at hSw); (go_simp <;> with_reducible rfl))
        try simp only [Act.put, List.setIfInBounds_toArray, List.set_cons_zero, List.set_cons_succ]
        refine wpAnyH_take (i := 19) (oi := { dst := some 86, op := Go.Op.move (Go.Operand.tmp 15), type := 3, pos := "outright.go:50", after := #[{ on := 18, ground := Go.Ground.guard }], guard := some (18, false) }) (v := ?_) rfl (by kernel_rfl) (by kernel_rfl) (by kernel_rfl) (fun _ _ _ h => h) (Or.inl ⟨by rfl, ?_⟩) (by assumption) ?_
        rotate_left
        · (intro w hSw; (try dsimp only at hSw); (go_simp <;> with_reducible rfl))
        try simp only [Act.put, List.setIfInBounds_toArray, List.set_cons_zero, List.set_cons_succ]
        refine wpAnyH_take (i := 20) (oi := { dst := some 87, op := Go.Op.move (Go.Operand.tmp 12), type := 31, pos := "outright.go:50", after := #[{ on := 18, ground := Go.Ground.guard }], guard := some (18, false) }) (v := ?_) rfl (by kernel_rfl) (by kernel_rfl) (by kernel_rfl) (fun _ _ _ h => h) (Or.inl ⟨by rfl, ?_⟩) (by assumption) ?_
        rotate_left
        · (intro w hSw; (try dsimp only at hSw); (go_simp <;> with_reducible rfl))
        try simp only [Act.put, List.setIfInBounds_toArray, List.set_cons_zero, List.set_cons_succ]
        refine wpAnyH_take (i := 21) (oi := { dst := some 88, op := Go.Op.move (Go.Operand.tmp 14), type := 3, pos := "outright.go:50", after := #[{ on := 18, ground := Go.Ground.guard }], guard := some (18, false) }) (v := ?_) rfl (by kernel_rfl) (by kernel_rfl) (by kernel_rfl) (fun _ _ _ h => h) (Or.inl ⟨by rfl, ?_⟩) (by assumption) ?_
        rotate_left
        · (intro w hSw; (try dsimp only at hSw); (go_simp <;> with_reducible rfl))
        try simp only [Act.put, List.setIfInBounds_toArray, List.set_cons_zero, List.set_cons_succ]
        refine wpAnyH_take (i := 22) (oi := { dst := some 89, op := Go.Op.indexAddr 31 (Go.Operand.tmp 87) (Go.Operand.tmp 88), type := 0, pos := "outright.go:50", after := #[{ on := 20, ground := Go.Ground.data }, { on := 21, ground := Go.Ground.data }, { on := 18, ground := Go.Ground.guard }], guard := some (18, false) }) (v := ?_) rfl (by kernel_rfl) (by kernel_rfl) (by kernel_rfl) (fun _ _ _ h => h) (Or.inl ⟨by rfl, ?_⟩) (by assumption) ?_
        rotate_left
        · (intro w hSw; (try dsimp only at hSw); (go_simp <;> with_reducible rfl))
        try simp only [Act.put, List.setIfInBounds_toArray, List.set_cons_zero, List.set_cons_succ]
        refine wpAnyH_take (i := 23) (oi := { dst := some 90, op := Go.Op.load 3 (Go.Operand.tmp 89), type := 3, pos := "outright.go:50", after := #[{ on := 22, ground := Go.Ground.data }, { on := 18, ground := Go.Ground.guard }], guard := some (18, false) }) (v := ?_) rfl (by kernel_rfl) (by kernel_rfl) (by kernel_rfl) (fun _ _ _ h => h) (Or.inl ⟨by rfl, ?_⟩) (by assumption) ?_
        rotate_left
        · (intro w hSw; (try dsimp only at hSw); (go_simp <;> with_reducible rfl))
        try simp only [Act.put, List.setIfInBounds_toArray, List.set_cons_zero, List.set_cons_succ]
        refine wpAnyH_take (i := 24) (oi := { dst := some 91, op := Go.Op.binOp Go.BinOp.neq 3 (Go.Operand.tmp 86) (Go.Operand.tmp 90) 3, type := 4, pos := "outright.go:50", after := #[{ on := 19, ground := Go.Ground.data }, { on := 23, ground := Go.Ground.data }, { on := 18, ground := Go.Ground.guard }], guard := some (18, false) }) (v := ?_) rfl (by kernel_rfl) (by kernel_rfl) (by kernel_rfl) (fun _ _ _ h => h) (Or.inl ⟨by rfl, ?_⟩) (by assumption) ?_
        rotate_left
        · (intro w hSw; (try dsimp only at hSw); (go_simp <;> with_reducible rfl))
        try simp only [Act.put, List.setIfInBounds_toArray, List.set_cons_zero, List.set_cons_succ]
        refine wpAnyH_take (i := 25) (oi := { dst := some 92, op := Go.Op.pick (Go.Operand.tmp 85) (Go.Operand.const (Go.Value.bool true)) (Go.Operand.tmp 91), type := 4, pos := "outright.go:50", after := #[{ on := 18, ground := Go.Ground.data }, { on := 24, ground := Go.Ground.data }], guard := none }) (v := ?_) rfl (by kernel_rfl) (by kernel_rfl) (by kernel_rfl) (fun _ _ _ h => h) (Or.inl ⟨by rfl, ?_⟩) (by assumption) ?_
        rotate_left
        · (intro w hSw; (try dsimp only at hSw); (go_simp <;> with_reducible rfl))
        try simp only [Act.put, List.setIfInBounds_toArray, List.set_cons_zero, List.set_cons_succ]
        refine wpAnyH_take (i := 26) (oi := { dst := some 93, op := Go.Op.move (Go.Operand.tmp 92), type := 4, pos := "outright.go:50", after := #[{ on := 25, ground := Go.Ground.data }, { on := 18, ground := Go.Ground.chain }], guard := none }) (v := ?_) rfl (by kernel_rfl) (by kernel_rfl) (by kernel_rfl) (fun _ _ _ h => h) (Or.inl ⟨by rfl, ?_⟩) (by assumption) ?_
        rotate_left
        · (intro w hSw; (try dsimp only at hSw); (go_simp <;> with_reducible rfl))
        try simp only [Act.put, List.setIfInBounds_toArray, List.set_cons_zero, List.set_cons_succ]
        refine wpAnyH_take (i := 27) (oi := { dst := some 94, op := Go.Op.move (Go.Operand.tmp 9), type := 22, pos := "outright.go:50", after := #[{ on := 26, ground := Go.Ground.guard }], guard := some (26, false) }) (v := ?_) rfl (by kernel_rfl) (by kernel_rfl) (by kernel_rfl) (fun _ _ _ h => h) (Or.inl ⟨by rfl, ?_⟩) (by assumption) ?_
        rotate_left
        · (intro w hSw; (try dsimp only at hSw); (go_simp <;> with_reducible rfl))
        try simp only [Act.put, List.setIfInBounds_toArray, List.set_cons_zero, List.set_cons_succ]
        refine wpAnyH_take (i := 28) (oi := { dst := some 95, op := Go.Op.move (Go.Operand.tmp 11), type := 30, pos := "outright.go:50", after := #[{ on := 26, ground := Go.Ground.guard }], guard := some (26, false) }) (v := ?_) rfl (by kernel_rfl) (by kernel_rfl) (by kernel_rfl) (fun _ _ _ h => h) (Or.inl ⟨by rfl, ?_⟩) (by assumption) ?_
        rotate_left
        · (intro w hSw; (try dsimp only at hSw); (go_simp <;> with_reducible rfl))
        try simp only [Act.put, List.setIfInBounds_toArray, List.set_cons_zero, List.set_cons_succ]
        refine wpAnyH_take (i := 29) (oi := { dst := some 96, op := Go.Op.move (Go.Operand.tmp 14), type := 3, pos := "outright.go:50", after := #[{ on := 26, ground := Go.Ground.guard }], guard := some (26, false) }) (v := ?_) rfl (by kernel_rfl) (by kernel_rfl) (by kernel_rfl) (fun _ _ _ h => h) (Or.inl ⟨by rfl, ?_⟩) (by assumption) ?_
        rotate_left
        · (intro w hSw; (try dsimp only at hSw); (go_simp <;> with_reducible rfl))
        try simp only [Act.put, List.setIfInBounds_toArray, List.set_cons_zero, List.set_cons_succ]
        refine wpAnyH_take (i := 30) (oi := { dst := some 97, op := Go.Op.indexAddr 30 (Go.Operand.tmp 95) (Go.Operand.tmp 96), type := 0, pos := "outright.go:50", after := #[{ on := 28, ground := Go.Ground.data }, { on := 29, ground := Go.Ground.data }, { on := 26, ground := Go.Ground.guard }], guard := some (26, false) }) (v := ?_) rfl (by kernel_rfl) (by kernel_rfl) (by kernel_rfl) (fun _ _ _ h => h) (Or.inl ⟨by rfl, ?_⟩) (by assumption) ?_
        rotate_left
        · (intro w hSw; (try dsimp only at hSw); (go_simp <;> with_reducible rfl))
        try simp only [Act.put, List.setIfInBounds_toArray, List.set_cons_zero, List.set_cons_succ]
        refine wpAnyH_take (i := 31) (oi := { dst := some 98, op := Go.Op.load 56 (Go.Operand.tmp 97), type := 56, pos := "outright.go:50", after := #[{ on := 30, ground := Go.Ground.data }, { on := 26, ground := Go.Ground.guard }], guard := some (26, false) }) (v := ?_) rfl (by kernel_rfl) (by kernel_rfl) (by kernel_rfl) (fun _ _ _ h => h) (Or.inl ⟨by rfl, ?_⟩) (by assumption) ?_
        rotate_left
        · (intro w hSw; (try dsimp only at hSw); (go_simp <;> with_reducible rfl))
        try simp only [Act.put, List.setIfInBounds_toArray, List.set_cons_zero, List.set_cons_succ]
        refine wpAnyH_take (i := 32) (oi := { dst := some 99, op := Go.Op.convert 56 29 (Go.Operand.tmp 98), type := 29, pos := "outright.go:50", after := #[{ on := 31, ground := Go.Ground.data }, { on := 26, ground := Go.Ground.guard }], guard := some (26, false) }) (v := ?_) rfl (by kernel_rfl) (by kernel_rfl) (by kernel_rfl) (fun _ _ _ h => h) (Or.inl ⟨by rfl, ?_⟩) (by assumption) ?_
        rotate_left
        · (intro w hSw; (try dsimp only at hSw); (go_simp <;> with_reducible rfl))
        try simp only [Act.put, List.setIfInBounds_toArray, List.set_cons_zero, List.set_cons_succ]
        refine wpAnyH_take (i := 33) (oi := { dst := some 100, op := Go.Op.move (Go.Operand.tmp 15), type := 3, pos := "outright.go:50", after := #[{ on := 26, ground := Go.Ground.guard }], guard := some (26, false) }) (v := ?_) rfl (by kernel_rfl) (by kernel_rfl) (by kernel_rfl) (fun _ _ _ h => h) (Or.inl ⟨by rfl, ?_⟩) (by assumption) ?_
        rotate_left
        · (intro w hSw; (try dsimp only at hSw); (go_simp <;> with_reducible rfl))
        try simp only [Act.put, List.setIfInBounds_toArray, List.set_cons_zero, List.set_cons_succ]
        refine wpAnyH_take (i := 34) (oi := { dst := some 101, op := Go.Op.binOp Go.BinOp.add 3 (Go.Operand.tmp 100) (Go.Operand.const (Go.Value.int Go.IntKind.i64 1)) 3, type := 3, pos := "outright.go:50", after := #[{ on := 33, ground := Go.Ground.data }, { on := 26, ground := Go.Ground.guard }], guard := some (26, false) }) (v := ?_) rfl (by kernel_rfl) (by kernel_rfl) (by kernel_rfl) (fun _ _ _ h => h) (Or.inl ⟨by rfl, ?_⟩) (by assumption) ?_
        rotate_left
        · (intro w hSw; (try dsimp only at hSw); (go_simp <;> with_reducible rfl))
        try simp only [Act.put, List.setIfInBounds_toArray, List.set_cons_zero, List.set_cons_succ]
        refine wpAnyH_ready (rs := [35]) (by kernel_rfl) (by simp) ?_
        refine AllReadyH.cons (o := { dst := some 102, op := Go.Op.call { callee := Go.Callee.value (Go.Operand.func 10), args := #[Go.Operand.tmp 94, Go.Operand.tmp 99, Go.Operand.tmp 101], argTypes := #[22, 29, 3] }, type := 34, pos := "outright.go:50", after := #[{ on := 27, ground := Go.Ground.data }, { on := 32, ground := Go.Ground.data }, { on := 34, ground := Go.Ground.data }, { on := 26, ground := Go.Ground.chain }, { on := 26, ground := Go.Ground.guard }], guard := some (26, false) }) rfl (fun K hK => ?_) ?_
        rotate_left
        · exact AllReadyH.nil
        go_simp
        refine (HPut.out _ (grown_drew _ _)).mono ?_
        rintro r wB ⟨rfl, hIB, hkB⟩
        go_wp2_with fail
        refine hK.out _ _ ?_ (fun hHeld => ?_)
        · ((try dsimp only); exact ⟨HX.out hkB hgi z0, HX.out hkB hgi z1, HX.out hkB hgv z2⟩)
        clear hK K
        try simp only [Act.put, List.setIfInBounds_toArray, List.set_cons_zero, List.set_cons_succ]
        refine wpAnyH_take (i := 36) (oi := { dst := some 103, op := Go.Op.binOp Go.BinOp.neq 34 (Go.Operand.tmp 102) (Go.Operand.const (Go.Value.int Go.IntKind.i64 7)) 34, type := 4, pos := "outright.go:50", after := #[{ on := 35, ground := Go.Ground.data }, { on := 26, ground := Go.Ground.guard }], guard := some (26, false) }) (v := ?_) rfl (by kernel_rfl) (by kernel_rfl) (by kernel_rfl) (fun _ _ _ h => h) (Or.inl ⟨by rfl, ?_⟩) (by assumption) ?_
        rotate_left
        · (intro w hSw; (try dsimp only at hSw); (go_simp <;> with_reducible rfl))
        try simp only [Act.put, List.setIfInBounds_toArray, List.set_cons_zero, List.set_cons_succ]
        refine wpAnyH_take (i := 37) (oi := { dst := some 104, op := Go.Op.pick (Go.Operand.tmp 93) (Go.Operand.const (Go.Value.bool true)) (Go.Operand.tmp 103), type := 4, pos := "outright.go:50", after := #[{ on := 26, ground := Go.Ground.data }, { on := 36, ground := Go.Ground.data }], guard := none }) (v := ?_) rfl (by kernel_rfl) (by kernel_rfl) (by kernel_rfl) (fun _ _ _ h => h) (Or.inl ⟨by rfl, ?_⟩) (by assumption) ?_
        rotate_left
        · (intro w hSw; (try dsimp only at hSw); (go_simp <;> with_reducible rfl))
        try simp only [Act.put, List.setIfInBounds_toArray, List.set_cons_zero, List.set_cons_succ]
        refine wpAnyH_done (by kernel_rfl) ?_ _
        have H5 := hide (And.intro hIB (H4.out.2.trans ((Kept.new (grown_drew w4 none) p.own).trans hkB (fun _ _ e => e)) (fun _ _ e => e)))
        have z3 : wB.cell? ⟨gi, i, none⟩ = some (.int .u64 (yk : Int)) := HX.out hkB hgi z1
        clear hIB hkB hHeld HPut z1 z2
        have hwr : IntKind.i64.wrap ((i : Int) + 1) = (i : Int) + 1 := by rw [IntKind.wrap_i64]; omega
        have HRel : Hid (∀ b : Bool, b = (hr M i id || (yk == id)) → ∃ i' : Nat, (Value.int .i64 ((i : Int) + 1) : Value) = .int .i64 (i' : Int) ∧ (Value.bool b : Value) = .bool (hr M i' id) ∧ Hid (gk - 1 = L - i' ∧ i' ≤ L ∧ (∃ lo, Io wB p M lo) ∧ wB.ownsRow w2.heap.size 56 1 (.slice (some ⟨gi, 0, none⟩) L ca) L (idV M) ∧ wB.ownsRow w2.heap.size 3 1 (.slice (some ⟨gv, 0, none⟩) L cb) L (vlV M) ∧ w.grownBy wB none)) := by
          rintro b rfl
          refine ⟨i + 1, by simp, by rw [HN.out, ← HY.out.1], by have := HR.out.1; omega, by omega, ⟨_, H5.out.1⟩, row_keep HR.out.2.2.2.1 (fun k hk => ?_), row_keep HR.out.2.2.2.2.1 (fun k hk => ?_), ?_⟩
          · obtain ⟨h1, cur, hc⟩ := own_block HR.out.2.2.2.1 hk
            exact H5.out.2.block k (row_lt hc) (fun e => by have := H2.out.1.lt _ e; omega)
          · obtain ⟨h1, cur, hc⟩ := own_block HR.out.2.2.2.2.1 hk
            exact H5.out.2.block k (row_lt hc) (fun e => by have := H2.out.1.lt _ e; omega)
          · exact Kept.grown ((Kept.new HR.out.2.2.2.2.2 (fun i => w.heap.size ≤ i)).trans H5.out.2 (fun i _ e => H2.out.2.2 i e)) (fun i hi e => by omega)
        have hgk : gk - 1 < gk := by have := HR.out.1; omega
        generalize hr M i id = hb at *
        cases hb with
        | true =>
          go_wp2
          go_roundg (gk - 1)
          case rel => exact HRel.out true (by simp)
          case measure => exact hgk
        | false =>
          by_cases hyid : yk = id
          · have HYI := hide hyid
            have w1 : ((yk : Int) == (id : Int)) = true := by simp; omega
            have w2' : decide ((yk : Int) = (id : Int)) = true := by simp; omega
            clear hyid
            go_wp2
            go_roundg (gk - 1)
            case rel => exact HRel.out true (by rw [HYI.out]; simp)
            case measure => exact hgk
          · have HYI := hide hyid
            have w1 : ((yk : Int) == (id : Int)) = false := by simp; omega
            have w2' : decide ((yk : Int) = (id : Int)) = false := by simp; omega
            clear hyid
            go_wp2
            go_roundg (gk - 1)
            case rel => exact HRel.out false (by simpa using HYI.out)
            case measure => exact hgk
    · obtain rfl : i = L := by have := HR.out.2.1; omega
      obtain ⟨lo2, hM⟩ := HR.out.2.2.1
      have hall := hr_all M id
      rw [← H3.out.2.2.2.2] at hall
      rw [hall]
      have q1 := get_io hM id HV.out.1
      have HG := hide HR.out.2.2.2.2.2
      have hLb : ¬ ((i : Int) < (i : Int)) := by omega
      clear hM hall HR
      obtain ⟨here, hhere⟩ : ∃ here, here = (lk M id).isSome := ⟨_, rfl⟩
      rw [← hhere] at q1 ⊢
      have HH := hide hhere
      clear hhere
      generalize (lk M id).getD 0 = gv0 at *
      go_wp2_with fail
      refine q1.mono ?_
      clear q1
      rintro e w4 ⟨rfl, h4, k4⟩
      have q2 := set_io h4 id HV.out.1 v HV.out.2.1 HV.out.2.2
      rw [← HH.out] at q2
      have H4 := hide k4
      have HA := hide h4.asc
      clear h4 k4
      cases here with
      | true =>
        obtain ⟨u, hu, -⟩ := (lk_val HA.out HH.out.symm).1 rfl
        go_wp2_with fail
        refine q2.mono ?_
        clear q2
        rintro e w5 ⟨rfl, h5, k5⟩
        have hl5 : lk (up M id v) id = some v := by rw [lk_up HA.out, if_pos rfl, hu]; rfl
        have H5 : Hid (Io w5 p (up M id v) true ∧ Kept wr w5 p.own ∧ lk (up M id v) id = some v) := ⟨h5, H4.out.trans k5 (fun _ _ e => e), hl5⟩
        generalize up M id v = M2 at *
        clear h5 k5 hl5 hu H4
        have q5 := get_io H5.out.1 id HV.out.1
        rw [H5.out.2.2] at q5
        simp only [Option.getD, Option.isSome] at q5
        go_wp2_with fail
        refine q5.mono ?_
        clear q5
        rintro e w8 ⟨rfl, h8, k8⟩
        have q6 := drop_io h8 id HV.out.1
        rw [H5.out.2.2] at q6
        simp only [Option.isSome] at q6
        have H8 := hide (And.intro (H5.out.2.1.trans k8 (fun _ _ e => e)) h8.asc)
        clear h8 k8
        go_wp2_with fail
        refine q6.mono ?_
        clear q6
        rintro e w9 ⟨rfl, h9, k9⟩
        have hl9 : lk (dr M2 id) id = none := by rw [lk_dr H8.out.2, if_pos rfl]
        have q7 := get_io h9 id HV.out.1
        rw [hl9] at q7
        simp only [Option.getD, Option.isSome] at q7
        have H9 := hide (And.intro (H8.out.1.trans k9 (fun _ _ e => e)) hl9)
        clear h9 k9 hl9
        go_wp2_with fail
        refine q7.mono ?_
        clear q7
        rintro e wa ⟨rfl, ha, ka⟩
        have q8 := drop_io ha id HV.out.1
        rw [H9.out.2, dr_none H9.out.2] at q8
        simp only [Option.isSome] at q8
        have Ha := hide (H9.out.1.trans ka (fun _ _ e => e))
        clear ha ka
        go_wp2_with fail
        refine q8.mono ?_
        clear q8
        rintro e wb ⟨rfl, hb, kb⟩
        have q9 := set_io hb id HV.out.1 1 (by decide) (by decide)
        rw [H9.out.2] at q9
        simp only [Option.isSome] at q9
        have Hb := hide (Ha.out.trans kb (fun _ _ e => e))
        clear hb kb
        go_wp2_with fail
        refine q9.mono ?_
        clear q9
        rintro e wc ⟨rfl, hc, kc⟩
        have Hc := hide (Hb.out.trans kc (fun _ _ e => e))
        clear hc kc
        go_wp2_with fail
        refine (awake_any _).mono ?_
        rintro e wd ⟨rfl, gd⟩
        have Hd := hide gd
        clear gd
        go_wp2
        go_ret
        exact ⟨rfl, Kept.grown (((Kept.new HG.out (fun i => w.heap.size ≤ i)).trans Hc.out (fun i _ e => H2.out.2.2 i e)).trans (Kept.new Hd.out (fun i => w.heap.size ≤ i)) (fun _ _ e => e)) (fun i hi e => by omega)⟩
      | false =>
        have hu := (lk_val HA.out HH.out.symm).2 rfl
        rw [up_none hu] at q2
        go_wp2_with fail
        refine q2.mono ?_
        clear q2
        rintro e w5 ⟨rfl, h5, k5⟩
        have q3 := put_io h5 id HV.out.1 v HV.out.2.1 HV.out.2.2
        by_cases hfl : i = p.m
        · have hML : M.length = p.m := by rw [← H3.out.2.2.2.2]; exact hfl
          rw [show putE M id p.m = 6 by simp [putE, hu, hML], show putM M id p.m v = M by simp [putM, hu, hML]] at q3
          have H5 := hide (And.intro (H4.out.trans k5 (fun _ _ e => e)) hfl)
          clear h5 k5 hML hfl
          go_wp2_with fail
          refine q3.mono ?_
          clear q3
          rintro e w6 ⟨rfl, h6, k6⟩
          have q4 := h6.most
          rw [← H5.out.2] at q4
          have H6 := hide (H5.out.1.trans k6 (fun _ _ e => e))
          clear h6 k6
          go_wp2_with fail
          refine q4.mono ?_
          clear q4
          rintro e wx ⟨rfl, hwx⟩
          obtain rfl := hwx.symm
          go_wp2_with fail
          refine (awake_any _).mono ?_
          rintro e w7 ⟨rfl, g7⟩
          have H7 := hide g7
          clear g7
          go_wp2
          go_ret
          exact ⟨rfl, Kept.grown (((Kept.new HG.out (fun i => w.heap.size ≤ i)).trans H6.out (fun i _ e => H2.out.2.2 i e)).trans (Kept.new H7.out (fun i => w.heap.size ≤ i)) (fun _ _ e => e)) (fun i hi e => by omega)⟩
        · have hML : ¬ M.length = p.m := by rw [← H3.out.2.2.2.2]; exact hfl
          rw [show putE M id p.m = 0 by simp [putE, hu, hML], show putM M id p.m v = ins M (id, v) by simp [putM, hu, hML]] at q3
          have H5 := hide (H4.out.trans k5 (fun _ _ e => e))
          have hl5 : lk (ins M (id, v)) id = some v := by rw [lk_ins HA.out hu, if_pos rfl]
          clear h5 k5 hML hfl H4
          go_wp2_with fail
          refine q3.mono ?_
          clear q3
          rintro e w6 ⟨rfl, h6, k6⟩
          have H5 : Hid (Io w6 p (ins M (id, v)) true ∧ Kept wr w6 p.own ∧ lk (ins M (id, v)) id = some v) := ⟨h6, H5.out.trans k6 (fun _ _ e => e), hl5⟩
          generalize ins M (id, v) = M2 at *
          generalize w6 = w5 at *
          clear h6 k6 hl5 hu
          have q5 := get_io H5.out.1 id HV.out.1
          rw [H5.out.2.2] at q5
          simp only [Option.getD, Option.isSome] at q5
          go_wp2_with fail
          refine q5.mono ?_
          clear q5
          rintro e w8 ⟨rfl, h8, k8⟩
          have q6 := drop_io h8 id HV.out.1
          rw [H5.out.2.2] at q6
          simp only [Option.isSome] at q6
          have H8 := hide (And.intro (H5.out.2.1.trans k8 (fun _ _ e => e)) h8.asc)
          clear h8 k8
          go_wp2_with fail
          refine q6.mono ?_
          clear q6
          rintro e w9 ⟨rfl, h9, k9⟩
          have hl9 : lk (dr M2 id) id = none := by rw [lk_dr H8.out.2, if_pos rfl]
          have q7 := get_io h9 id HV.out.1
          rw [hl9] at q7
          simp only [Option.getD, Option.isSome] at q7
          have H9 := hide (And.intro (H8.out.1.trans k9 (fun _ _ e => e)) hl9)
          clear h9 k9 hl9
          go_wp2_with fail
          refine q7.mono ?_
          clear q7
          rintro e wa ⟨rfl, ha, ka⟩
          have q8 := drop_io ha id HV.out.1
          rw [H9.out.2, dr_none H9.out.2] at q8
          simp only [Option.isSome] at q8
          have Ha := hide (H9.out.1.trans ka (fun _ _ e => e))
          clear ha ka
          go_wp2_with fail
          refine q8.mono ?_
          clear q8
          rintro e wb ⟨rfl, hb, kb⟩
          have q9 := set_io hb id HV.out.1 1 (by decide) (by decide)
          rw [H9.out.2] at q9
          simp only [Option.isSome] at q9
          have Hb := hide (Ha.out.trans kb (fun _ _ e => e))
          clear hb kb
          go_wp2_with fail
          refine q9.mono ?_
          clear q9
          rintro e wc ⟨rfl, hc, kc⟩
          have Hc := hide (Hb.out.trans kc (fun _ _ e => e))
          clear hc kc
          go_wp2_with fail
          refine (awake_any _).mono ?_
          rintro e wd ⟨rfl, gd⟩
          have Hd := hide gd
          clear gd
          go_wp2
          go_ret
          exact ⟨rfl, Kept.grown (((Kept.new HG.out (fun i => w.heap.size ≤ i)).trans Hc.out (fun i _ e => H2.out.2.2 i e)).trans (Kept.new Hd.out (fun i => w.heap.size ≤ i)) (fun _ _ e => e)) (fun i hi e => by omega)⟩
end Go.Proofs.Ytoocaioilpgmeaa
